/-
  petrelref11.Next by plain functions.
-/
import Derived.Test.YtkbbeioednhefaaDoorRcr
namespace Go.Proofs.YtkbbeioednhefaaDoor.rcd
open Go.RowKit Go.Proofs.YtkbbeioednhefaaDoor.mem Go.Proofs.YtkbbeioednhefaaDoor.sha Go.Proofs.YtkbbeioednhefaaDoor.opn

def nextV (x : Rc × Int × Int) : Value := .tuple #[recv x.1, .int .i64 x.2.1, .int .i64 x.2.2]
theorem next_bad {l : List UInt8} {i e : Int} (h0 : ¬ i < 0) (h1 : ¬ (l.length : Int) < i) (h : firstR (l.drop i.toNat) = (zrc, 0, e)) (he : e ≠ 0) : nextR l i = (zrc, 0, e) := by
  unfold nextR
  rw [if_neg (by omega), h, if_pos he]
theorem next_ok {l : List UInt8} {i n : Int} {r : Rc} (h0 : ¬ i < 0) (h1 : ¬ (l.length : Int) < i) (h : firstR (l.drop i.toNat) = (r, n, 0)) : nextR l i = (r, i + n, 0) := by
  unfold nextR
  rw [if_neg (by omega), h, if_neg (by simp)]
theorem info_rc : (Tryd.prog.info? 39).map (·.size) = some 2 := by kernel_rfl
theorem results_rc {fn : Func} {p q q2 : Tmp} (h : fn.results = #[.cell p 39, .tmp q, .tmp q2]) (tmps : Array Value) (w : World) (g : Nat) (k : Int) (s : ByteArray)
    (hp : tmps.getD p undef = .pointer (some ⟨g, 0, none⟩)) (hg : Blk w g 39 #[.int .i64 k, .string s]) :
    (results fn tmps).run Tryd.prog w = .ok (.tuple #[.agg #[.int .i64 k, .string s], tmps.getD q undef, tmps.getD q2 undef]) w := by
  have hp' : tmps[p]?.getD undef = .pointer (some ⟨g, 0, none⟩) := by simpa using hp
  have hl := run_loadVar_row w g 39 39 #[.int .i64 k, .string s] (0, 0) _ hg Tryd.underlying39 rfl (by rw [info_rc]; rfl)
  simp [results, h, hp', asAddr, hl]
/-- what stands while a record is read: the result's box R, the Reader's g -/
structure NS (w0 : World) (R g : Nat) (st : St) (w : World) : Prop where
  below : Below w0.heap.size w0 w
  r : Blk w R 39 #[.int .i64 0, .string ⟨#[]⟩]
  rd : RdrS w g st
  ne : R ≠ g
  rge : w0.heap.size ≤ R
  gge : w0.heap.size ≤ g
section
variable {w0 w w' : World} {R g A : Nat} {st st' : St} {k : Int} {s : ByteArray}
theorem NS.step (h : NS w0 R g st w) (hr : RdrS w' g st') (ht : Turn (· = g) w w') : NS w0 R g st' w' :=
  ⟨h.below.trans (ht.below fun j hj => by rw [hj]; exact h.gge), Blk.turn h.r ht h.ne, hr, h.ne, h.rge, h.gge⟩
theorem NS.next (h : NS w0 R g st w) (hb : Below w.heap.size w w') : NS w0 R g st w' :=
  ⟨h.below.trans (hb.mono h.below.size), h.r.below hb h.r.lt, h.rd.turn (Turn.ofBelow hb) (by have := h.rd.lt; omega), h.ne, h.rge, h.gge⟩
/-- .. and the record's box A -/
structure NA (w0 : World) (R g A : Nat) (st : St) (k : Int) (s : ByteArray) (w : World) : Prop where
  ns : NS w0 R g st w
  a : Blk w A 39 #[.int .i64 k, .string s]
  ag : A ≠ g
  ar : A ≠ R
  age : w0.heap.size ≤ A
theorem NA.step (h : NA w0 R g A st k s w) (hr : RdrS w' g st') (ht : Turn (· = g) w w') : NA w0 R g A st' k s w' := ⟨h.ns.step hr ht, Blk.turn h.a ht h.ag, h.ag, h.ar, h.age⟩
theorem NA.next (h : NA w0 R g A st k s w) (hb : Below w.heap.size w w') : NA w0 R g A st k s w' := ⟨h.ns.next hb, h.a.below hb h.a.lt, h.ag, h.ar, h.age⟩
theorem NA.start (h : NS w0 R g st w) (k : Int) : NA w0 R g w.heap.size st k ⟨#[]⟩ (w.alloc (.cells #[.int .i64 k, .string ⟨#[]⟩] 39)) := by
  have hb : Below w.heap.size w (w.alloc (.cells #[.int .i64 k, .string ⟨#[]⟩] 39)) := (Below.refl _ _).alloc (Nat.le_refl _) _
  have h1 := h.rd.lt
  have h2 := h.r.lt
  exact ⟨h.next hb, Blk.new w _ _, by omega, by omega, h.below.size⟩
theorem NA.body (h : NA w0 R g A st k s w) (t : ByteArray) : NA w0 R g A st k t (w.setCell ⟨A, 1, none⟩ (.string t)) := by
  have ht : Turn (· = A) w (w.setCell ⟨A, 1, none⟩ (.string t)) := (Turn.refl (· = A) w).setCell rfl _
  exact ⟨⟨h.ns.below.trans (ht.below fun j hj => by rw [hj]; exact h.age), Blk.turn h.ns.r ht (fun e => h.ar e.symm), h.ns.rd.turn ht (fun e => h.ag e.symm), h.ns.ne, h.ns.rge, h.ns.gge⟩, h.a.set_ 1 _, h.ag, h.ar, h.age⟩
/-- the result is told -/
theorem NS.tell (h : NS w0 R g st w) (k : Int) (t : ByteArray) : Blk ((w.setCell ⟨R, 0, none⟩ (.int .i64 k)).setCell ⟨R, 1, none⟩ (.string t)) R 39 #[.int .i64 k, .string t] ∧ Below w0.heap.size w0 ((w.setCell ⟨R, 0, none⟩ (.int .i64 k)).setCell ⟨R, 1, none⟩ (.string t)) := by
  refine ⟨(h.r.set_ 0 (.int .i64 k)).set_ 1 (.string t), ?_⟩
  exact h.below.trans ((((Turn.refl (· = R) w).setCell rfl _).setCell rfl _).below fun j hj => by rw [hj]; exact h.rge)
theorem NS.cells (h : NS w0 R g st w) : w.cell? ⟨R, 0, none⟩ = some (.int .i64 0) ∧ w.cell? ⟨R, 1, none⟩ = some (.string ⟨#[]⟩) ∧ w.frozen? ⟨R, 0, none⟩ = false ∧ w.frozen? ⟨R, 1, none⟩ = false ∧ w.cell? ⟨g, 1, none⟩ = some (.int .i64 st.2) :=
  ⟨h.r.cell 0, h.r.cell 1, h.r.frozen 0, h.r.frozen 1, h.rd.err⟩
theorem NA.cells (h : NA w0 R g A st k s w) : w.cell? ⟨A, 0, none⟩ = some (.int .i64 k) ∧ w.cell? ⟨A, 1, none⟩ = some (.string s) ∧ w.frozen? ⟨A, 1, none⟩ = false := ⟨h.a.cell 0, h.a.cell 1, h.a.frozen 1⟩
end
set_option maxHeartbeats 8000000 in
set_option maxRecDepth 100000 in
theorem next_ref (s : ByteArray) (i : Int) (hs : s.size ≤ 140737488355328) (w : World) :
    Calls Tryd.prog 58 #[.string s, .int .i64 i] w fun e w' => e = .returned (nextV (nextR s.data.toList i)) ∧ Below w.heap.size w w' := by
  have hl : s.data.toList.length = s.size := Array.length_toList
  have s0 : (0 : Int) ≤ (s.size : Int) := Int.natCast_nonneg _
  have hb1 : Below w.heap.size w (w.alloc (.cells #[.int .i64 0, .string ⟨#[]⟩] 39)) := (Below.refl _ _).alloc (Nat.le_refl _) _
  by_cases h0 : i < 0
  · have HE := Lib.hid (show nextR s.data.toList i = (zrc, 0, 5) by unfold nextR; rw [if_pos (.inl h0)])
    have HB := Lib.hid hb1
    clear hb1 hl
    go_enter Tryd.func58, Tryd.ntmps58
    go_wp2_with fail
    refine bodyPost_ret (results_rc rfl _ _ w.heap.size 0 ⟨#[]⟩ rfl (Blk.new w _ _)) rfl ⟨?_, HB.out⟩
    rw [HE.out]
    rfl
  by_cases h1 : (s.size : Int) < i
  · have HE := Lib.hid (show nextR s.data.toList i = (zrc, 0, 5) by unfold nextR; rw [if_pos (.inr (by rw [hl]; exact h1))])
    have HB := Lib.hid hb1
    clear hb1 hl
    go_enter Tryd.func58, Tryd.ntmps58
    go_wp2_with fail
    refine bodyPost_ret (results_rc rfl _ _ w.heap.size 0 ⟨#[]⟩ rfl (Blk.new w _ _)) rfl ⟨?_, HB.out⟩
    rw [HE.out]
    rfl
  obtain ⟨l, hle⟩ : ∃ l, l = s.data.toList := ⟨_, rfl⟩
  rw [← hle] at hl ⊢
  have HBAD := Lib.hid fun e => next_bad (l := l) (i := i) (e := e) h0 (by rw [hl]; exact h1)
  have HOK := Lib.hid fun n r => next_ok (l := l) (i := i) (n := n) (r := r) h0 (by rw [hl]; exact h1)
  obtain ⟨m, rfl⟩ : ∃ m : Nat, i = (m : Int) := ⟨i.toNat, by omega⟩
  rw [Int.toNat_natCast] at HBAD HOK
  obtain ⟨t, ht⟩ : ∃ t, t = l.drop m := ⟨_, rfl⟩
  rw [← ht] at HBAD HOK
  have hex : s.extract m s.size = oct.tx t := by
    apply oct.bytes_ext
    rw [oct.tx_list, ht, hle]
    have hsz : s.size = s.data.toList.length := Array.length_toList.symm
    rw [ByteArray.data_extract, Array.toList_extract, List.extract_eq_take_drop, hsz, List.take_of_length_le (by rw [List.length_drop]; omega)]
  have hex2 : (s.extract m s.size).size = t.length := by rw [hex, oct.tx_size]
  obtain ⟨R, hR⟩ : ∃ R, R = w.heap.size := ⟨_, rfl⟩
  obtain ⟨g, hg⟩ : ∃ g, g = w.heap.size + 1 := ⟨_, rfl⟩
  have hNS : NS w R g (t, 0) ((w.alloc (.cells #[.int .i64 0, .string ⟨#[]⟩] 39)).alloc (.cells #[.string (oct.tx t), .int .i64 0] 121)) := by
    have hb2 : Below w.heap.size w ((w.alloc (.cells #[.int .i64 0, .string ⟨#[]⟩] 39)).alloc (.cells #[.string (oct.tx t), .int .i64 0] 121)) := hb1.alloc hb1.size _
    refine ⟨hb2, ?_, ⟨oct.tx t, 0, ?_, rfl, fun _ => rfl⟩, by omega, by omega, by omega⟩
    · rw [hR]; exact (Blk.new w _ _).alloc _
    · rw [show g = (w.alloc (.cells #[.int .i64 0, .string ⟨#[]⟩] 39)).heap.size by rw [hg]; simp]; exact Blk.new _ _ _
  obtain ⟨wS, hwS⟩ : ∃ u, u = ((w.alloc (.cells #[.int .i64 0, .string ⟨#[]⟩] 39)).alloc (.cells #[.string (oct.tx t), .int .i64 0] 121)) := ⟨_, rfl⟩
  rw [← hwS] at hNS
  have HNS := Lib.hid hNS
  have HR := Lib.hid hR
  have HG := Lib.hid hg
  have HWS := Lib.hid hwS
  clear hb1 hl hle ht hNS hR hg hwS hex2
  go_enter Tryd.func58, Tryd.ntmps58
  go_upto_region 4 with fail
  rw [← HG.out, ← HR.out, ← HWS.out]
  obtain ⟨n, st1, h4⟩ : ∃ n st1, rdN 4 (t, 0) = (n, st1) := ⟨_, _, rfl⟩
  have n0 : 0 ≤ n := by have := rdN_nonneg 4 (t, 0); rw [h4] at this; exact this
  have n1 : n < 4294967296 := by have := rdN4_lt (t, 0); rw [h4] at this; exact this
  have HF := Lib.hid (firstR.eq_1 t)
  rw [h4] at HF
  dsimp only at HF
  go_upto_region 5 with (go_at_call 76; refine (num4_s g (t, 0) _ HNS.out.rd).mono ?_; rw [h4]; rintro e w1 ⟨rfl, hr1, ht1⟩; have HS1 := Lib.hid (HNS.out.step hr1 ht1); clear hr1 ht1; obtain ⟨r0, r1, f0, f1, ce⟩ := HS1.out.cells)
  clear h4
  obtain ⟨l1, e1⟩ := st1
  simp only at ce
  by_cases he1 : e1 = 0
  case neg =>
    have hd : (e1 == 0) = false := by simpa using he1
    have HE := Lib.hid (HBAD.out 2 (by rw [HF.out, if_pos he1]) (by decide))
    clear he1 HF
    go_wp2_with fail
    have hb := HS1.out.tell 0 ⟨#[]⟩
    refine bodyPost_ret (results_rc rfl _ _ R 0 ⟨#[]⟩ rfl hb.1) rfl ⟨?_, hb.2⟩
    rw [HE.out]
    rfl
  subst he1
  by_cases hbig : (1048576 : Int) < n
  · have HE := Lib.hid (HBAD.out 3 (by rw [HF.out, if_neg (by simp), if_pos hbig]) (by decide))
    clear HF
    go_wp2_with fail
    have hb := HS1.out.tell 0 ⟨#[]⟩
    refine bodyPost_ret (results_rc rfl _ _ R 0 ⟨#[]⟩ rfl hb.1) rfl ⟨?_, hb.2⟩
    rw [HE.out]
    rfl
  have hbig0 : n ≤ 1048576 := by omega
  rw [if_neg (by simp), if_neg hbig] at HF
  obtain ⟨k, st2, h1k⟩ : ∃ k st2, rdN 1 (l1, 0) = (k, st2) := ⟨_, _, rfl⟩
  have k0 : 0 ≤ k := by have := rdN_nonneg 1 (l1, 0); rw [h1k] at this; exact this
  have k1 : k < 256 := by have := rdN1_lt (l1, 0); rw [h1k] at this; exact this
  rw [h1k] at HF
  dsimp only at HF
  go_upto_region 10 with (go_at_call 76; refine (num1_s g (l1, 0) _ HS1.out.rd).mono ?_; rw [h1k]; rintro e w2 ⟨rfl, hr2, ht2⟩; have HS2 := Lib.hid (HS1.out.step hr2 ht2); clear hr2 ht2)
  clear h1k r0 r1 f0 f1 ce
  have hNA := NA.start HS2.out k
  obtain ⟨wA, hwA⟩ : ∃ u, u = w2.alloc (.cells #[.int .i64 k, .string ⟨#[]⟩] 39) := ⟨_, rfl⟩
  obtain ⟨A, hA⟩ : ∃ A, A = w2.heap.size := ⟨_, rfl⟩
  rw [← hwA, ← hA] at hNA
  rw [← hwA, ← hA]
  have HNA := Lib.hid hNA
  clear hNA hwA hA
  obtain ⟨b, st3, hbd⟩ : ∃ b st3, rd n.toNat st2 = (b, st3) := ⟨_, _, rfl⟩
  have hbl : b.length ≤ 1048576 := by have := rd_len n.toNat st2; rw [hbd] at this; simp only at this; omega
  rw [hbd] at HF
  dsimp only at HF
  go_upto_region 11 with (go_at_call 77; refine (raw_s g st2 n n0 _ HNA.out.ns.rd).mono ?_; rw [hbd]; rintro e w3 ⟨rfl, hr3, ht3⟩; have HA3 := Lib.hid (HNA.out.step hr3 ht3); clear hr3 ht3; obtain ⟨a0, a1, af1⟩ := HA3.out.cells)
  clear hbd a0 a1 af1
  have hNB := HA3.out.body (oct.tx b)
  obtain ⟨wB, hwB⟩ : ∃ u, u = w3.setCell ⟨A, 1, none⟩ (.string (oct.tx b)) := ⟨_, rfl⟩
  rw [← hwB] at hNB
  rw [← hwB]
  have HNB := Lib.hid hNB
  clear hNB hwB
  obtain ⟨sm, st4, h4b⟩ : ∃ sm st4, rdN 4 st3 = (sm, st4) := ⟨_, _, rfl⟩
  rw [h4b] at HF
  dsimp only at HF
  have bz := oct.tx_size b
  have bl := oct.tx_list b
  obtain ⟨B, hB⟩ : ∃ B, B = oct.tx b := ⟨_, rfl⟩
  rw [← hB] at bz bl HNB
  rw [← hB]
  have HBT := Lib.hid hB
  have HBL := Lib.hid bl
  have bz1 : B.size ≤ 1048576 := by omega
  clear hB bl bz
  go_upto_region 12 with (go_at_call 76; refine (num4_s g st3 _ HNB.out.ns.rd).mono ?_; rw [h4b]; rintro e w4 ⟨rfl, hr4, ht4⟩; have HC := Lib.hid (HNB.out.step hr4 ht4); clear hr4 ht4; obtain ⟨r0, r1, f0, f1, ce⟩ := HC.out.ns.cells; obtain ⟨a0, a1, af1⟩ := HC.out.cells)
  clear h4b
  obtain ⟨l4, e4⟩ := st4
  simp only at ce
  by_cases he4 : e4 = 0
  case neg =>
    have hd : (e4 == 0) = false := by simpa using he4
    have HE := Lib.hid (HBAD.out 2 (by rw [HF.out, if_pos he4]) (by decide))
    clear he4 HF
    go_wp2_with fail
    have hb := HC.out.ns.tell 0 ⟨#[]⟩
    refine bodyPost_ret (results_rc rfl _ _ R 0 ⟨#[]⟩ rfl hb.1) rfl ⟨?_, hb.2⟩
    rw [HE.out]
    rfl
  subst he4
  by_cases hk1 : k < 1
  · have HE := Lib.hid (HBAD.out 10 (by rw [HF.out, if_neg (by simp), if_pos (.inl hk1)]) (by decide))
    clear HF
    go_wp2_with fail
    have hb := HC.out.ns.tell 0 ⟨#[]⟩
    refine bodyPost_ret (results_rc rfl _ _ R 0 ⟨#[]⟩ rfl hb.1) rfl ⟨?_, hb.2⟩
    rw [HE.out]
    rfl
  by_cases hk3 : 3 < k
  · have HE := Lib.hid (HBAD.out 10 (by rw [HF.out, if_neg (by simp), if_pos (.inr hk3)]) (by decide))
    clear HF
    go_wp2_with fail
    have hb := HC.out.ns.tell 0 ⟨#[]⟩
    refine bodyPost_ret (results_rc rfl _ _ R 0 ⟨#[]⟩ rfl hb.1) rfl ⟨?_, hb.2⟩
    rw [HE.out]
    rfl
  have kk1 : 1 ≤ k := by omega
  have kk3 : k ≤ 3 := by omega
  rw [if_neg (by simp), if_neg (show ¬ (k < 1 ∨ 3 < k) by omega)] at HF
  obtain ⟨q, hq⟩ : ∃ q, q = oct.tx (b1 k) ++ B := ⟨_, rfl⟩
  have hqs : q.size ≤ 1048577 := by rw [hq, ByteArray.size_append, oct.tx_size, b1_len]; omega
  have hql : q.data.toList = inner ⟨k, b⟩ := by rw [hq, ByteArray.data_append, Array.toList_append, oct.tx_list, HBL.out]; rfl
  have HI := Lib.hid fun u => inner_any k B ⟨kk1, kk3⟩ (by omega) u
  rw [← hq] at HI
  have HA := Lib.hid fun u => radd0 q u (by omega)
  rw [hql] at HA
  obtain ⟨z, hz⟩ : ∃ z, z = U (crc.addC 0 (inner ⟨k, b⟩)) := ⟨_, rfl⟩
  have zs : sumI ⟨k, b⟩ = z := by rw [hz]; rfl
  have z0 : 0 ≤ z := by rw [hz]; exact U_nonneg _
  have z1 : z < 4294967296 := by rw [hz]; exact U_lt _
  rw [← hz] at HA
  rw [zs] at HF
  have zw : IntKind.i64.wrap z = z := by rw [IntKind.wrap_i64]; omega
  clear hq hqs hql hz zs
  have hq1 : Hid (∀ w5, Below w4.heap.size w4 w5 → NA w R g A (l4, 0) k B w5) := Lib.hid fun w5 h => HC.out.next h
  by_cases hsum : z = sm
  case neg =>
    have hd : (z == sm) = false := by simpa using hsum
    have HE := Lib.hid (HBAD.out 13 (by rw [HF.out, if_pos hsum]) (by decide))
    clear hsum HF
    go_upto_region 17 with (first
      | (go_at_call 65; (with_reducible refine (HI.out _).mono ?_); rintro e w5 ⟨rfl, hb5⟩; have HD := Lib.hid (hq1.out w5 hb5); clear hb5; obtain ⟨r0, r1, f0, f1, -⟩ := HD.out.ns.cells)
      | (go_at_call 67; (with_reducible refine (HA.out _).mono ?_); rintro e w6 ⟨rfl, rfl⟩))
    go_wp2_with fail
    have hb := HD.out.ns.tell 0 ⟨#[]⟩
    refine bodyPost_ret (results_rc rfl _ _ R 0 ⟨#[]⟩ rfl hb.1) rfl ⟨?_, hb.2⟩
    rw [HE.out]
    rfl
  · have hd : (z == sm) = true := by simpa using hsum
    have hE := HOK.out (n + 9) ⟨k, b⟩ (by rw [HF.out, if_neg (by simpa using hsum)])
    have HE := Lib.hid hE
    clear hsum HF hE
    have w1' : IntKind.i64.wrap ((m : Int) + n) = (m : Int) + n := by rw [IntKind.wrap_i64]; omega
    have w2' : IntKind.i64.wrap ((m : Int) + n + 9) = (m : Int) + n + 9 := by rw [IntKind.wrap_i64]; omega
    go_wp2_with (first
      | (go_at_call 65; (with_reducible refine (HI.out _).mono ?_); rintro e w5 ⟨rfl, hb5⟩; have HD := Lib.hid (hq1.out w5 hb5); clear hb5; obtain ⟨r0, r1, f0, f1, -⟩ := HD.out.ns.cells; obtain ⟨a0, a1, -⟩ := HD.out.cells)
      | (go_at_call 67; (with_reducible refine (HA.out _).mono ?_); rintro e w6 ⟨rfl, rfl⟩))
    have hb := HD.out.ns.tell k B
    refine bodyPost_ret (results_rc rfl _ _ R k B rfl hb.1) rfl ⟨?_, hb.2⟩
    rw [HE.out, HBT.out, show (m : Int) + (n + 9) = (m : Int) + n + 9 by omega]
    rfl
end Go.Proofs.YtkbbeioednhefaaDoor.rcd
