/-
  petrelref11.Next by plain functions.
  Lists of records in memory; petrelref11.All.
-/
import Derived.Test.YtkbbeioednhefaaGreatDoorRcr
import Derived.Test.YtkbbeioednhefaaGreatDoorOwnk
import Derived.RegionTactic
import Derived.BigRegion
import Derived.BigQuiet
namespace Go.Proofs.YtkbbeioednhefaaGreatDoor.rcd
open Go.RowKit Go.Proofs.YtkbbeioednhefaaGreatDoor.mem Go.Proofs.YtkbbeioednhefaaGreatDoor.sha Go.Proofs.YtkbbeioednhefaaGreatDoor.opn

def nextV (x : Rc × Int × Int) : Value := .tuple #[recv x.1, .int .i64 x.2.1, .int .i64 x.2.2]
theorem next_bad {l : List UInt8} {i e : Int} (h0 : ¬ i < 0) (h1 : ¬ (l.length : Int) < i) (h : firstR (l.drop i.toNat) = (zrc, 0, e)) (he : e ≠ 0) : nextR l i = (zrc, 0, e) := by
  unfold nextR
  rw [if_neg (by omega), h, if_pos he]
theorem next_ok {l : List UInt8} {i n : Int} {r : Rc} (h0 : ¬ i < 0) (h1 : ¬ (l.length : Int) < i) (h : firstR (l.drop i.toNat) = (r, n, 0)) : nextR l i = (r, i + n, 0) := by
  unfold nextR
  rw [if_neg (by omega), h, if_neg (by simp)]
theorem info_rc : (Tryz.prog.info? 66).map (·.size) = some 2 := by kernel_rfl
theorem results_rc {fn : Func} {p q q2 : Tmp} (h : fn.results = #[.cell p 66, .tmp q, .tmp q2]) (tmps : Array Value) (w : World) (g : Nat) (k : Int) (s : ByteArray)
    (hp : tmps.getD p undef = .pointer (some ⟨g, 0, none⟩)) (hg : Blk w g 66 #[.int .i64 k, .string s]) :
    (results fn tmps).run Tryz.prog w = .ok (.tuple #[.agg #[.int .i64 k, .string s], tmps.getD q undef, tmps.getD q2 undef]) w := by
  have hp' : tmps[p]?.getD undef = .pointer (some ⟨g, 0, none⟩) := by simpa using hp
  have hl := run_loadVar_row w g 66 66 #[.int .i64 k, .string s] (0, 0) _ hg Tryz.underlying66 rfl (by rw [info_rc]; rfl)
  simp [results, h, hp', asAddr, hl]
/-- what stands while a record is read: the result's box R, the Reader's g -/
structure NS (w0 : World) (R g : Nat) (st : St) (w : World) : Prop where
  below : Below w0.heap.size w0 w
  r : Blk w R 66 #[.int .i64 0, .string ⟨#[]⟩]
  rd : RdrS w g st
  ne : R ≠ g
  rge : w0.heap.size ≤ R
  gge : w0.heap.size ≤ g
section
variable {w0 w w' : World} {R g A : Nat} {st st' : St} {k : Int} {s : ByteArray}
theorem NS.step (h : NS w0 R g st w) (hr : RdrS w' g st') (ht : Turn (· = g) w w') : NS w0 R g st' w' :=
  ⟨h.below.trans (ht.below fun j hj => by rw [hj]; exact h.gge), Blk.turn h.r ht h.ne, hr, h.ne, h.rge, h.gge⟩
theorem NS.next (h : NS w0 R g st w) (hb : Below w.heap.size w w') : NS w0 R g st w' :=
  ⟨h.below.trans (hb.mono h.below.size), h.r.below hb h.r.lt, h.rd.turn (Turn.ofBelow hb) (by have := h.rd.lt; omega), h.ne, h.rge, h.gge⟩
/-- .. and the record's box A -/
structure NA (w0 : World) (R g A : Nat) (st : St) (k : Int) (s : ByteArray) (w : World) : Prop where
  ns : NS w0 R g st w
  a : Blk w A 66 #[.int .i64 k, .string s]
  ag : A ≠ g
  ar : A ≠ R
  age : w0.heap.size ≤ A
theorem NA.step (h : NA w0 R g A st k s w) (hr : RdrS w' g st') (ht : Turn (· = g) w w') : NA w0 R g A st' k s w' := ⟨h.ns.step hr ht, Blk.turn h.a ht h.ag, h.ag, h.ar, h.age⟩
theorem NA.next (h : NA w0 R g A st k s w) (hb : Below w.heap.size w w') : NA w0 R g A st k s w' := ⟨h.ns.next hb, h.a.below hb h.a.lt, h.ag, h.ar, h.age⟩
theorem NA.start (h : NS w0 R g st w) (k : Int) : NA w0 R g w.heap.size st k ⟨#[]⟩ (w.alloc (.cells #[.int .i64 k, .string ⟨#[]⟩] 66)) := by
  have hb : Below w.heap.size w (w.alloc (.cells #[.int .i64 k, .string ⟨#[]⟩] 66)) := (Below.refl _ _).alloc (Nat.le_refl _) _
  have h1 := h.rd.lt
  have h2 := h.r.lt
  exact ⟨h.next hb, Blk.new w _ _, by omega, by omega, h.below.size⟩
theorem NA.body (h : NA w0 R g A st k s w) (t : ByteArray) : NA w0 R g A st k t (w.setCell ⟨A, 1, none⟩ (.string t)) := by
  have ht : Turn (· = A) w (w.setCell ⟨A, 1, none⟩ (.string t)) := (Turn.refl (· = A) w).setCell rfl _
  exact ⟨⟨h.ns.below.trans (ht.below fun j hj => by rw [hj]; exact h.age), Blk.turn h.ns.r ht (fun e => h.ar e.symm), h.ns.rd.turn ht (fun e => h.ag e.symm), h.ns.ne, h.ns.rge, h.ns.gge⟩, h.a.set_ 1 _, h.ag, h.ar, h.age⟩
/-- the result is told -/
theorem NS.tell (h : NS w0 R g st w) (k : Int) (t : ByteArray) : Blk ((w.setCell ⟨R, 0, none⟩ (.int .i64 k)).setCell ⟨R, 1, none⟩ (.string t)) R 66 #[.int .i64 k, .string t] ∧ Below w0.heap.size w0 ((w.setCell ⟨R, 0, none⟩ (.int .i64 k)).setCell ⟨R, 1, none⟩ (.string t)) := by
  refine ⟨(h.r.set_ 0 (.int .i64 k)).set_ 1 (.string t), ?_⟩
  exact h.below.trans ((((Turn.refl (· = R) w).setCell rfl _).setCell rfl _).below fun j hj => by rw [hj]; exact h.rge)
theorem NS.cells (h : NS w0 R g st w) : w.cell? ⟨R, 0, none⟩ = some (.int .i64 0) ∧ w.cell? ⟨R, 1, none⟩ = some (.string ⟨#[]⟩) ∧ w.frozen? ⟨R, 0, none⟩ = false ∧ w.frozen? ⟨R, 1, none⟩ = false ∧ w.cell? ⟨g, 1, none⟩ = some (.int .i64 st.2) :=
  ⟨h.r.cell 0, h.r.cell 1, h.r.frozen 0, h.r.frozen 1, h.rd.err⟩
theorem NA.cells (h : NA w0 R g A st k s w) : w.cell? ⟨A, 0, none⟩ = some (.int .i64 k) ∧ w.cell? ⟨A, 1, none⟩ = some (.string s) ∧ w.frozen? ⟨A, 1, none⟩ = false := ⟨h.a.cell 0, h.a.cell 1, h.a.frozen 1⟩
end
set_option maxHeartbeats 8000000 in
set_option maxRecDepth 100000 in
theorem next_ref (s : ByteArray) (i : Int) (hs : s.size ≤ 140737488355328) (w : World) :
    Calls Tryz.prog 89 #[.string s, .int .i64 i] w fun e w' => e = .returned (nextV (nextR s.data.toList i)) ∧ Below w.heap.size w w' := by
  have hl : s.data.toList.length = s.size := Array.length_toList
  have s0 : (0 : Int) ≤ (s.size : Int) := Int.natCast_nonneg _
  have hb1 : Below w.heap.size w (w.alloc (.cells #[.int .i64 0, .string ⟨#[]⟩] 66)) := (Below.refl _ _).alloc (Nat.le_refl _) _
  by_cases h0 : i < 0
  · have HE := Lib.hid (show nextR s.data.toList i = (zrc, 0, 5) by unfold nextR; rw [if_pos (.inl h0)])
    have HB := Lib.hid hb1
    clear hb1 hl
    go_enter Tryz.func89, Tryz.ntmps89
    go_wp2_with fail
    refine bodyPost_ret (results_rc rfl _ _ w.heap.size 0 ⟨#[]⟩ rfl (Blk.new w _ _)) rfl ⟨?_, HB.out⟩
    rw [HE.out]
    rfl
  by_cases h1 : (s.size : Int) < i
  · have HE := Lib.hid (show nextR s.data.toList i = (zrc, 0, 5) by unfold nextR; rw [if_pos (.inr (by rw [hl]; exact h1))])
    have HB := Lib.hid hb1
    clear hb1 hl
    go_enter Tryz.func89, Tryz.ntmps89
    go_wp2_with fail
    refine bodyPost_ret (results_rc rfl _ _ w.heap.size 0 ⟨#[]⟩ rfl (Blk.new w _ _)) rfl ⟨?_, HB.out⟩
    rw [HE.out]
    rfl
  obtain ⟨l, hle⟩ : ∃ l, l = s.data.toList := ⟨_, rfl⟩
  rw [← hle] at hl ⊢
  have HBAD := Lib.hid fun e => next_bad (l := l) (i := i) (e := e) h0 (by rw [hl]; exact h1)
  have HOK := Lib.hid fun n r => next_ok (l := l) (i := i) (n := n) (r := r) h0 (by rw [hl]; exact h1)
  obtain ⟨m, rfl⟩ : ∃ m : Nat, i = (m : Int) := ⟨i.toNat, by omega⟩
  rw [Int.toNat_natCast] at HBAD HOK
  obtain ⟨t, ht⟩ : ∃ t, t = l.drop m := ⟨_, rfl⟩
  rw [← ht] at HBAD HOK
  have hex : s.extract m s.size = oct.tx t := by
    apply oct.bytes_ext
    rw [oct.tx_list, ht, hle]
    have hsz : s.size = s.data.toList.length := Array.length_toList.symm
    rw [ByteArray.data_extract, Array.toList_extract, List.extract_eq_take_drop, hsz, List.take_of_length_le (by rw [List.length_drop]; omega)]
  have hex2 : (s.extract m s.size).size = t.length := by rw [hex, oct.tx_size]
  obtain ⟨R, hR⟩ : ∃ R, R = w.heap.size := ⟨_, rfl⟩
  obtain ⟨g, hg⟩ : ∃ g, g = w.heap.size + 1 := ⟨_, rfl⟩
  have hNS : NS w R g (t, 0) ((w.alloc (.cells #[.int .i64 0, .string ⟨#[]⟩] 66)).alloc (.cells #[.string (oct.tx t), .int .i64 0] 112)) := by
    have hb2 : Below w.heap.size w ((w.alloc (.cells #[.int .i64 0, .string ⟨#[]⟩] 66)).alloc (.cells #[.string (oct.tx t), .int .i64 0] 112)) := hb1.alloc hb1.size _
    refine ⟨hb2, ?_, ⟨oct.tx t, 0, ?_, rfl, fun _ => rfl⟩, by omega, by omega, by omega⟩
    · rw [hR]; exact (Blk.new w _ _).alloc _
    · rw [show g = (w.alloc (.cells #[.int .i64 0, .string ⟨#[]⟩] 66)).heap.size by rw [hg]; simp]; exact Blk.new _ _ _
  obtain ⟨wS, hwS⟩ : ∃ u, u = ((w.alloc (.cells #[.int .i64 0, .string ⟨#[]⟩] 66)).alloc (.cells #[.string (oct.tx t), .int .i64 0] 112)) := ⟨_, rfl⟩
  rw [← hwS] at hNS
  have HNS := Lib.hid hNS
  have HR := Lib.hid hR
  have HG := Lib.hid hg
  have HWS := Lib.hid hwS
  clear hb1 hl hle ht hNS hR hg hwS hex2
  go_enter Tryz.func89, Tryz.ntmps89
  go_upto_region 4 with fail
  rw [← HG.out, ← HR.out, ← HWS.out]
  obtain ⟨n, st1, h4⟩ : ∃ n st1, rdN 4 (t, 0) = (n, st1) := ⟨_, _, rfl⟩
  have n0 : 0 ≤ n := by have := rdN_nonneg 4 (t, 0); rw [h4] at this; exact this
  have n1 : n < 4294967296 := by have := rdN4_lt (t, 0); rw [h4] at this; exact this
  have HF := Lib.hid (firstR.eq_1 t)
  rw [h4] at HF
  dsimp only at HF
  go_upto_region 5 with (go_at_call 66; refine (num4_s g (t, 0) _ HNS.out.rd).mono ?_; rw [h4]; rintro e w1 ⟨rfl, hr1, ht1⟩; have HS1 := Lib.hid (HNS.out.step hr1 ht1); clear hr1 ht1; obtain ⟨r0, r1, f0, f1, ce⟩ := HS1.out.cells)
  clear h4
  obtain ⟨l1, e1⟩ := st1
  simp only at ce
  by_cases he1 : e1 = 0
  case neg =>
    have hd : (e1 == 0) = false := by simpa using he1
    have HE := Lib.hid (HBAD.out 2 (by rw [HF.out, if_pos he1]) (by decide))
    clear he1 HF
    go_wp2_with fail
    have hb := HS1.out.tell 0 ⟨#[]⟩
    refine bodyPost_ret (results_rc rfl _ _ R 0 ⟨#[]⟩ rfl hb.1) rfl ⟨?_, hb.2⟩
    rw [HE.out]
    rfl
  subst he1
  by_cases hbig : (1048576 : Int) < n
  · have HE := Lib.hid (HBAD.out 3 (by rw [HF.out, if_neg (by simp), if_pos hbig]) (by decide))
    clear HF
    go_wp2_with fail
    have hb := HS1.out.tell 0 ⟨#[]⟩
    refine bodyPost_ret (results_rc rfl _ _ R 0 ⟨#[]⟩ rfl hb.1) rfl ⟨?_, hb.2⟩
    rw [HE.out]
    rfl
  have hbig0 : n ≤ 1048576 := by omega
  rw [if_neg (by simp), if_neg hbig] at HF
  obtain ⟨k, st2, h1k⟩ : ∃ k st2, rdN 1 (l1, 0) = (k, st2) := ⟨_, _, rfl⟩
  have k0 : 0 ≤ k := by have := rdN_nonneg 1 (l1, 0); rw [h1k] at this; exact this
  have k1 : k < 256 := by have := rdN1_lt (l1, 0); rw [h1k] at this; exact this
  rw [h1k] at HF
  dsimp only at HF
  go_upto_region 10 with (go_at_call 66; refine (num1_s g (l1, 0) _ HS1.out.rd).mono ?_; rw [h1k]; rintro e w2 ⟨rfl, hr2, ht2⟩; have HS2 := Lib.hid (HS1.out.step hr2 ht2); clear hr2 ht2)
  clear h1k r0 r1 f0 f1 ce
  have hNA := NA.start HS2.out k
  obtain ⟨wA, hwA⟩ : ∃ u, u = w2.alloc (.cells #[.int .i64 k, .string ⟨#[]⟩] 66) := ⟨_, rfl⟩
  obtain ⟨A, hA⟩ : ∃ A, A = w2.heap.size := ⟨_, rfl⟩
  rw [← hwA, ← hA] at hNA
  rw [← hwA, ← hA]
  have HNA := Lib.hid hNA
  clear hNA hwA hA
  obtain ⟨b, st3, hbd⟩ : ∃ b st3, rd n.toNat st2 = (b, st3) := ⟨_, _, rfl⟩
  have hbl : b.length ≤ 1048576 := by have := rd_len n.toNat st2; rw [hbd] at this; simp only at this; omega
  rw [hbd] at HF
  dsimp only at HF
  go_upto_region 11 with (go_at_call 90; refine (raw_s g st2 n n0 _ HNA.out.ns.rd).mono ?_; rw [hbd]; rintro e w3 ⟨rfl, hr3, ht3⟩; have HA3 := Lib.hid (HNA.out.step hr3 ht3); clear hr3 ht3; obtain ⟨a0, a1, af1⟩ := HA3.out.cells)
  clear hbd a0 a1 af1
  have hNB := HA3.out.body (oct.tx b)
  obtain ⟨wB, hwB⟩ : ∃ u, u = w3.setCell ⟨A, 1, none⟩ (.string (oct.tx b)) := ⟨_, rfl⟩
  rw [← hwB] at hNB
  rw [← hwB]
  have HNB := Lib.hid hNB
  clear hNB hwB
  obtain ⟨sm, st4, h4b⟩ : ∃ sm st4, rdN 4 st3 = (sm, st4) := ⟨_, _, rfl⟩
  rw [h4b] at HF
  dsimp only at HF
  have bz := oct.tx_size b
  have bl := oct.tx_list b
  obtain ⟨B, hB⟩ : ∃ B, B = oct.tx b := ⟨_, rfl⟩
  rw [← hB] at bz bl HNB
  rw [← hB]
  have HBT := Lib.hid hB
  have HBL := Lib.hid bl
  have bz1 : B.size ≤ 1048576 := by omega
  clear hB bl bz
  go_upto_region 12 with (go_at_call 66; refine (num4_s g st3 _ HNB.out.ns.rd).mono ?_; rw [h4b]; rintro e w4 ⟨rfl, hr4, ht4⟩; have HC := Lib.hid (HNB.out.step hr4 ht4); clear hr4 ht4; obtain ⟨r0, r1, f0, f1, ce⟩ := HC.out.ns.cells; obtain ⟨a0, a1, af1⟩ := HC.out.cells)
  clear h4b
  obtain ⟨l4, e4⟩ := st4
  simp only at ce
  by_cases he4 : e4 = 0
  case neg =>
    have hd : (e4 == 0) = false := by simpa using he4
    have HE := Lib.hid (HBAD.out 2 (by rw [HF.out, if_pos he4]) (by decide))
    clear he4 HF
    go_wp2_with fail
    have hb := HC.out.ns.tell 0 ⟨#[]⟩
    refine bodyPost_ret (results_rc rfl _ _ R 0 ⟨#[]⟩ rfl hb.1) rfl ⟨?_, hb.2⟩
    rw [HE.out]
    rfl
  subst he4
  by_cases hk1 : k < 1
  · have HE := Lib.hid (HBAD.out 10 (by rw [HF.out, if_neg (by simp), if_pos (.inl hk1)]) (by decide))
    clear HF
    go_wp2_with fail
    have hb := HC.out.ns.tell 0 ⟨#[]⟩
    refine bodyPost_ret (results_rc rfl _ _ R 0 ⟨#[]⟩ rfl hb.1) rfl ⟨?_, hb.2⟩
    rw [HE.out]
    rfl
  by_cases hk3 : 3 < k
  · have HE := Lib.hid (HBAD.out 10 (by rw [HF.out, if_neg (by simp), if_pos (.inr hk3)]) (by decide))
    clear HF
    go_wp2_with fail
    have hb := HC.out.ns.tell 0 ⟨#[]⟩
    refine bodyPost_ret (results_rc rfl _ _ R 0 ⟨#[]⟩ rfl hb.1) rfl ⟨?_, hb.2⟩
    rw [HE.out]
    rfl
  have kk1 : 1 ≤ k := by omega
  have kk3 : k ≤ 3 := by omega
  rw [if_neg (by simp), if_neg (show ¬ (k < 1 ∨ 3 < k) by omega)] at HF
  obtain ⟨q, hq⟩ : ∃ q, q = oct.tx (b1 k) ++ B := ⟨_, rfl⟩
  have hqs : q.size ≤ 1048577 := by rw [hq, ByteArray.size_append, oct.tx_size, b1_len]; omega
  have hql : q.data.toList = inner ⟨k, b⟩ := by rw [hq, ByteArray.data_append, Array.toList_append, oct.tx_list, HBL.out]; rfl
  have HI := Lib.hid fun u => inner_any k B ⟨kk1, kk3⟩ (by omega) u
  rw [← hq] at HI
  have HA := Lib.hid fun u => radd0 q u (by omega)
  rw [hql] at HA
  obtain ⟨z, hz⟩ : ∃ z, z = U (crc.addC 0 (inner ⟨k, b⟩)) := ⟨_, rfl⟩
  have zs : sumI ⟨k, b⟩ = z := by rw [hz]; rfl
  have z0 : 0 ≤ z := by rw [hz]; exact U_nonneg _
  have z1 : z < 4294967296 := by rw [hz]; exact U_lt _
  rw [← hz] at HA
  rw [zs] at HF
  have zw : IntKind.i64.wrap z = z := by rw [IntKind.wrap_i64]; omega
  clear hq hqs hql hz zs
  have hq1 : Hid (∀ w5, Below w4.heap.size w4 w5 → NA w R g A (l4, 0) k B w5) := Lib.hid fun w5 h => HC.out.next h
  by_cases hsum : z = sm
  case neg =>
    have hd : (z == sm) = false := by simpa using hsum
    have HE := Lib.hid (HBAD.out 13 (by rw [HF.out, if_pos hsum]) (by decide))
    clear hsum HF
    go_upto_region 17 with (first
      | (go_at_call 74; (with_reducible refine (HI.out _).mono ?_); rintro e w5 ⟨rfl, hb5⟩; have HD := Lib.hid (hq1.out w5 hb5); clear hb5; obtain ⟨r0, r1, f0, f1, -⟩ := HD.out.ns.cells)
      | (go_at_call 76; (with_reducible refine (HA.out _).mono ?_); rintro e w6 ⟨rfl, rfl⟩))
    go_wp2_with fail
    have hb := HD.out.ns.tell 0 ⟨#[]⟩
    refine bodyPost_ret (results_rc rfl _ _ R 0 ⟨#[]⟩ rfl hb.1) rfl ⟨?_, hb.2⟩
    rw [HE.out]
    rfl
  · have hd : (z == sm) = true := by simpa using hsum
    have hE := HOK.out (n + 9) ⟨k, b⟩ (by rw [HF.out, if_neg (by simpa using hsum)])
    have HE := Lib.hid hE
    clear hsum HF hE
    have w1' : IntKind.i64.wrap ((m : Int) + n) = (m : Int) + n := by rw [IntKind.wrap_i64]; omega
    have w2' : IntKind.i64.wrap ((m : Int) + n + 9) = (m : Int) + n + 9 := by rw [IntKind.wrap_i64]; omega
    go_wp2_with (first
      | (go_at_call 74; (with_reducible refine (HI.out _).mono ?_); rintro e w5 ⟨rfl, hb5⟩; have HD := Lib.hid (hq1.out w5 hb5); clear hb5; obtain ⟨r0, r1, f0, f1, -⟩ := HD.out.ns.cells; obtain ⟨a0, a1, -⟩ := HD.out.cells)
      | (go_at_call 76; (with_reducible refine (HA.out _).mono ?_); rintro e w6 ⟨rfl, rfl⟩))
    have hb := HD.out.ns.tell k B
    refine bodyPost_ret (results_rc rfl _ _ R k B rfl hb.1) rfl ⟨?_, hb.2⟩
    rw [HE.out, HBT.out, show (m : Int) + (n + 9) = (m : Int) + n + 9 by omega]
    rfl
end Go.Proofs.YtkbbeioednhefaaGreatDoor.rcd

namespace Go.Proofs.YtkbbeioednhefaaGreatDoor.rcd
open Go.RowKit Go.Proofs.YtkbbeioednhefaaGreatDoor.mem Go.Proofs.YtkbbeioednhefaaGreatDoor.sha Go.Proofs.YtkbbeioednhefaaGreatDoor.opn Go.Proofs.YtkbbeioednhefaaGreatDoor.rows Go.Proofs.YtkbbeioednhefaaGreatDoor.ids

def rcc (r : Rc) : List Value := [.int .i64 r.k, .string (oct.tx r.body)]
theorem rcc_uni (r : Rc) : (rcc r).length = 2 ∧ ∀ u ∈ rcc r, u.oneCell' = true := ⟨rfl, fun u hu => by
  simp only [rcc, List.mem_cons, List.not_mem_nil, or_false] at hu
  rcases hu with rfl | rfl <;> rfl⟩
def OwnR (w : World) (F : Nat → Prop) (v : Value) (L : List Rc) : Prop := OwnK w F 66 2 v (L.map rcc)
/-- a list of records that reads -/
def RcV (w : World) (v : Value) (L : List Rc) : Prop := ∃ ad cap, v = .slice ad L.length cap ∧ ∀ i, i < L.length → ∃ b off, ad = some ⟨b, off, none⟩ ∧ b < w.heap.size ∧
  w.cell? ⟨b, off + i * 2, none⟩ = some (.int .i64 (L.getD i zrc).k) ∧ w.cell? ⟨b, off + i * 2 + 1, none⟩ = some (.string (oct.tx (L.getD i zrc).body))
theorem RcV.next {w w' : World} {v : Value} {L : List Rc} (h : RcV w v L) (hb : Below w.heap.size w w') : RcV w' v L := by
  obtain ⟨ad, cap, hv, hc⟩ := h
  refine ⟨ad, cap, hv, fun i hi => ?_⟩
  obtain ⟨b, off, e, hlt, h0, h1⟩ := hc i hi
  exact ⟨b, off, e, Nat.lt_of_lt_of_le hlt hb.size, (hb.cell (p := ⟨b, off + i * 2, none⟩) hlt).trans h0, (hb.cell (p := ⟨b, off + i * 2 + 1, none⟩) hlt).trans h1⟩
theorem getD_map (L : List Rc) {i : Nat} (hi : i < L.length) : (L.map rcc).getD i [] = rcc (L.getD i zrc) := by
  rw [List.getD_eq_getElem?_getD, List.getElem?_map, List.getD_eq_getElem?_getD, List.getElem?_eq_getElem hi]
  rfl
theorem OwnR.rcv {w : World} {F : Nat → Prop} {v : Value} {L : List Rc} (h : OwnR w F v L) : RcV w v L := by
  by_cases h0 : L.length = 0
  · obtain ⟨ad, cap, hv⟩ := OwnK.form h
    rw [List.length_map] at hv
    exact ⟨ad, cap, hv, fun i hi => by omega⟩
  · obtain ⟨g, cap, cur, rfl, hF, hg, _⟩ := OwnK.at_ h (by rw [List.length_map]; omega)
    refine ⟨_, cap, by rw [List.length_map], fun i hi => ⟨g, 0, rfl, (Array.getElem?_eq_some_iff.1 hg).1, ?_, ?_⟩⟩
    · have := OwnK.cell h (i := i) (j := 0) (by rw [List.length_map]; exact hi) (by decide) (by rw [getD_map L hi]; rfl)
      rwa [Nat.add_zero, ← Nat.zero_add (i * 2)] at this
    · have := OwnK.cell h (i := i) (j := 1) (by rw [List.length_map]; exact hi) (by decide) (by rw [getD_map L hi]; rfl)
      rwa [← Nat.zero_add (i * 2)] at this
theorem info_rc3 : (Tryz.prog.info? 66).map (fun i => (i.zero, i.size, i.bytes)) = some (some (.agg #[.int .i64 0, .string ⟨#[]⟩]), 2, 24) := by kernel_rfl
/-- 'append(v, r)', r in a box of its own -/
theorem push_rc {w0 w : World} {v : Value} {L : List Rc} (hO : OwnR w (w0.heap.size ≤ ·) v L) (hB : Below w0.heap.size w0 w) (r : Rc) (hL : L.length < 100000) :
    ∃ v' w', (Builtin.append_ #[27, 27] 27 #[v, .slice (some ⟨w.heap.size + 1, 0, none⟩) 1 1]).run Tryz.prog ((w.alloc (.cells #[.int .i64 r.k, .string (oct.tx r.body)] 66)).alloc (.cells #[.int .i64 r.k, .string (oct.tx r.body)] 66)) = .ok v' w' ∧
      OwnR w' (w0.heap.size ≤ ·) v' (L ++ [r]) ∧ Below w0.heap.size w0 w' := by
  obtain ⟨i0, hi, hz0, hz1, hz2⟩ := info_parts info_rc3
  have h1 : Below w.heap.size w (w.alloc (.cells #[.int .i64 r.k, .string (oct.tx r.body)] 66)) := (Below.refl _ _).alloc (Nat.le_refl _) _
  have h2 : Below w.heap.size w ((w.alloc (.cells #[.int .i64 r.k, .string (oct.tx r.body)] 66)).alloc (.cells #[.int .i64 r.k, .string (oct.tx r.body)] 66)) := h1.alloc h1.size _
  have hsz : (w.alloc (.cells #[.int .i64 r.k, .string (oct.tx r.body)] 66)).heap.size = w.heap.size + 1 := by simp
  have hb : Blk ((w.alloc (.cells #[.int .i64 r.k, .string (oct.tx r.body)] 66)).alloc (.cells #[.int .i64 r.k, .string (oct.tx r.body)] 66)) (w.heap.size + 1) 66 #[.int .i64 r.k, .string (oct.tx r.body)] := by
    rw [← hsz]; exact Blk.new _ _ _
  obtain ⟨v', w', hrun, hO', hT⟩ := run_append_k (c := 2) (by_ := 24) Tryz.underlying27 hi hz0 hz1 hz2 rfl (by decide) (OwnK.next hO h2) (rcc_uni r) (g := w.heap.size + 1) (cap := 1) (fun j u hu => by
    rw [hb.cell, ← hu]
    match j with
    | 0 => rfl
    | 1 => rfl
    | j + 2 => rfl) (by rw [List.length_map]; omega) (by decide) 27
  have hle := hB.size
  have hle2 := h2.size
  refine ⟨v', w', hrun, ?_, (hB.trans (h2.mono hle)).trans (hT.below fun j hj => hj.elim (fun h => hO.2.2 j h) (fun h => by omega))⟩
  have := hO'.place (G := (w0.heap.size ≤ ·)) fun j hj => (hO'.2.2 j hj).elim (fun h => hO.2.2 j h) (fun h => by show w0.heap.size ≤ j; omega)
  unfold OwnR
  rw [List.map_append]
  exact this
theorem results_t3 {fn : Func} {p q r : Tmp} (h : fn.results = #[.tmp p, .tmp q, .tmp r]) (tmps : Array Value) (w : World) :
    (results fn tmps).run Tryz.prog w = .ok (.tuple #[tmps.getD p undef, tmps.getD q undef, tmps.getD r undef]) w := by
  simp [results, h]
set_option maxHeartbeats 4000000 in
set_option maxRecDepth 100000 in
theorem all_ref (s : ByteArray) (hs : s.size ≤ 800000) (w : World) :
    Calls Tryz.prog 65 #[.string s] w fun e w' => ∃ v, e = .returned (.tuple #[v, .int .i64 ((allT s.data.toList).2.1 : Int), .int .i64 (allT s.data.toList).2.2]) ∧ OwnR w' (w.heap.size ≤ ·) v (allT s.data.toList).1 ∧ Below w.heap.size w w' := by
  have hl : s.data.toList.length = s.size := Array.length_toList
  obtain ⟨l, hle⟩ : ∃ l, l = s.data.toList := ⟨_, rfl⟩
  have HN := Lib.hid fun i u => next_ref s i (by omega) u
  rw [← hle] at hl HN ⊢
  have s0 : (0 : Int) ≤ (s.size : Int) := Int.natCast_nonneg _
  clear hle
  go_enter Tryz.func65, Tryz.ntmps65
  go_wp2_with fail
  go_loopg [5, 6] (s.size + 1) (fun gk s5 s6 wr => ∃ (L : List Rc) (i : Nat), s6 = .int .i64 i ∧ i ≤ s.size ∧ s.size - i < gk ∧ L.length * 9 ≤ i ∧ Hid (OwnR wr (w.heap.size ≤ ·) s5 L) ∧ Hid (Below w.heap.size w wr) ∧ Hid (allT l = (L ++ (allT (l.drop i)).1, i + (allT (l.drop i)).2.1, (allT (l.drop i)).2.2)))
  case atStart => exact ⟨[], 0, rfl, Nat.zero_le _, by omega, Nat.le_refl _, Lib.hid (OwnK.nil _ _ _ _), Lib.hid (Below.refl _ _), Lib.hid (by rw [List.drop_zero, List.nil_append, Nat.zero_add])⟩
  case round =>
    obtain ⟨L, i, rfl, hi, hgk, hL, HO, HB, HE⟩ := hrel
    have i0 : (0 : Int) ≤ (i : Int) := Int.natCast_nonneg _
    by_cases hlt : i < s.size
    · have hltz : (i : Int) < (s.size : Int) := by omega
      have hne : l.drop i ≠ [] := fun h => by have := congrArg List.length h; rw [List.length_drop, List.length_nil] at this; omega
      obtain ⟨r, hr⟩ : ∃ r, r = nextR l i := ⟨_, rfl⟩
      have HNN := Lib.hid fun u => HN.out (i : Int) u
      rw [← hr] at HNN
      simp only [nextV, recv] at HNN
      by_cases he : (firstR (l.drop i)).2.2 = 0
      · have hfs := first_size he
        obtain ⟨f, n, e, hf⟩ : ∃ f n e, firstR (l.drop i) = (f, n, e) := ⟨_, _, _, rfl⟩
        have ha := allT_next hne he
        rw [hf] at he hfs ha
        simp only at he hfs ha
        subst he
        rw [next_ok (by omega) (by rw [hl]; omega) (by rw [Int.toNat_natCast]; exact hf)] at hr
        subst hr
        obtain ⟨m, rfl⟩ : ∃ m : Nat, n = (m : Int) := ⟨n.toNat, by omega⟩
        rw [Int.toNat_natCast] at ha
        rw [List.length_drop] at hfs
        have HA := Lib.hid ha
        have hm1 : i + m ≤ s.size := by omega
        have hm9 : 9 ≤ m := by omega
        clear hf ha hfs hne
        go_upto_region 7 with (go_at_call 89; (with_reducible refine (HNN.out _).mono ?_); rintro e w1 ⟨rfl, hb1⟩; obtain ⟨v', w', hrun, hO', hB'⟩ := push_rc (OwnK.next HO.out hb1) (HB.out.trans (hb1.mono HB.out.size)) f (by omega); have HO1 := Lib.hid hO'; have HB1 := Lib.hid hB'; clear hO' hB' hb1)
        go_wp2_with ((with_reducible refine step_append (s := .tmp 26) (x := .tmp 28) (t := 27) (vs := ?as1) (vx := ?ax1) (v' := ?av1) (w' := ?aw1) ?ag1 ?ao1 ?ap1 ?aq1 ?ar1 ?ah1); (case ag1 => rfl); (case ao1 => rfl); (case ap1 => rfl); (case aq1 => rfl); (case ar1 => exact hrun))
        go_roundg (s.size - (i + m) + 1)
        case measure => omega
        case rel => exact ⟨L ++ [f], i + m, by go_num, hm1, by omega, by rw [List.length_append, List.length_singleton]; omega, HO1, HB1, Lib.hid (by
          rw [HE.out, HA.out, List.drop_drop]
          simp only [List.append_assoc, List.cons_append, List.nil_append, Nat.add_assoc])⟩
      · have ha := allT_none hne he
        obtain ⟨e, hee⟩ : ∃ e, e = (firstR (l.drop i)).2.2 := ⟨_, rfl⟩
        rw [← hee] at he ha
        have hrn : r = (zrc, 0, e) := by
          rw [hr]
          unfold nextR
          rw [if_neg (by omega), Int.toNat_natCast, if_pos (by rw [← hee]; exact he), ← hee]
        subst hrn
        simp only [zrc] at HNN
        have hd : (e == 0) = false := by simpa using he
        rw [ha] at HE
        clear hr ha hee he hne
        go_wp2_with (go_at_call 89; (with_reducible refine (HNN.out _).mono ?_); rintro e2 w1 ⟨rfl, hb1⟩)
        refine bodyPost_ret (results_t3 rfl _ _) rfl ?_
        have hb2 : Below w1.heap.size w1 (w1.alloc (.cells #[.int .i64 0, .string (oct.tx [])] 66)) := (Below.refl _ _).alloc (Nat.le_refl _) _
        refine ⟨u5, ?_, ?_, (HB.out.trans (hb1.mono HB.out.size)).trans (hb2.mono (Nat.le_trans HB.out.size hb1.size))⟩
        · rw [HE.out]; rfl
        · rw [HE.out, List.append_nil]
          exact OwnK.next (OwnK.next HO.out hb1) hb2
    · obtain rfl : i = s.size := by omega
      have hnil : l.drop s.size = [] := List.drop_of_length_le (by omega)
      rw [hnil, allT_nil] at HE
      clear hnil
      go_wp2_with fail
      refine bodyPost_ret (results_t3 rfl _ _) rfl ?_
      refine ⟨u5, ?_, ?_, HB.out⟩
      · rw [HE.out]; rfl
      · rw [HE.out, List.append_nil]
        exact HO.out
/-- a beginning of a list of records -/
theorem slice_rc {w : World} {F : Nat → Prop} {ad : Option Addr} {n cap : Nat} {G : List Rc} (h : OwnR w F (.slice ad n cap) G) (k : Nat) (hk : k ≤ G.length) (u : World) :
    (Instr.sliceAt 27 (.slice ad n cap) none (some (.int .i64 (k : Int))) none).run Tryz.prog u = .ok (.slice ad k cap) u ∧ OwnR w F (.slice ad k cap) (G.take k) := by
  obtain ⟨y, hy, _, hs, _⟩ := info_parts info_rc3
  refine ⟨?_, by unfold OwnR; rw [List.map_take]; exact OwnK.cut h k (by rw [List.length_map]; exact hk)⟩
  have h0 : (0 : Int) ≤ (k : Int) := Int.natCast_nonneg _
  rcases h.2.1.2 with ⟨hv, hn⟩ | ⟨g, cap', cur, hv, hb, hh, h1, h2, h3, h4⟩
  · cases hv
    rw [List.length_map] at hn
    obtain rfl : k = 0 := by omega
    simp only [Instr.sliceAt, Instr.slice, Instr.sliceBounds, Instr.sliceBound, asIntOf, sizeOf, typeInfo, Sem.run_bind, Sem.run_pure, Result.andThen_ok, run_underlying Tryz.underlying27]
    simp [hy, hs]
  · cases hv
    rw [List.length_map] at h1
    have hc : (k : Int) ≤ (cap : Int) := by omega
    simp only [Instr.sliceAt, Instr.slice, Instr.sliceBounds, Instr.sliceBound, asIntOf, sizeOf, typeInfo, Sem.run_bind, Sem.run_pure, Result.andThen_ok, run_underlying Tryz.underlying27]
    simp [hy, hs, hc, Addr.add]
end Go.Proofs.YtkbbeioednhefaaGreatDoor.rcd
