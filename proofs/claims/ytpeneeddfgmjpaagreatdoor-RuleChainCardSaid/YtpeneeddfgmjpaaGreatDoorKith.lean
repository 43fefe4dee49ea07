/-
  petrelref02.Sum: the document's answer.
  What the listed tables of sha and topic give the walks of header; and that the program's own start lays them.
-/
import Derived.Test.YtpeneeddfgmjpaaGreatDoorMemc
import Derived.Test.YtpeneeddfgmjpaaGreatDoorIda
import Derived.Test.YtpeneeddfgmjpaaGreatDoorKitl
import Derived.Test.YtpeneeddfgmjpaaGreatDoorKitt
import Derived.Test.YtpeneeddfgmjpaaGreatDoorHlc
namespace Go.Proofs.YtpeneeddfgmjpaaGreatDoor.sha
open Go.RowKit Go.Proofs.YtpeneeddfgmjpaaGreatDoor.mem

def slLen : Value → Nat
 | .slice _ n _ => n
 | _ => 0

theorem be64_at (n k : Nat) (e : Int) (h : e = B ((be64 (8 * n)).getD k 0)) : e = (((be64 (8 * n)).getD k 0).toNat : Int) := h
theorem endAcc_more (n k : Nat) (hk : k < 8) : endAcc n k ++ [(be64 (8 * n)).getD k 0] = endAcc n (k + 1) := by
 unfold endAcc
 rw [List.take_succ_eq_append_getElem (by rw [be64_len]; exact hk), List.getD_eq_getElem?_getD, List.getElem?_eq_getElem (by rw [be64_len]; exact hk)]
 simp

/-- what the loops keep besides their own -/
def RSum (w0 w : World) : Prop := Blk w w0.heap.size 24 (bv z32).toArray ∧ Below w0.heap.size w0 w
theorem RSum.turn {w0 w w' : World} (h : RSum w0 w) (ht : Turn (w0.heap.size + 1 ≤ ·) w w') : RSum w0 w' :=
 ⟨h.1.turn ht (by omega), h.2.trans (ht.below fun _ hk => by omega)⟩
theorem RSum.new {w0 w : World} (h : RSum w0 w) : New (w0.heap.size + 1 ≤ ·) w := fun _ hk => Nat.le_trans h.1.lt hk

theorem calls_at {P : Program} {f : FuncId} {args : Array Value} {w w' : World} {Q : Ending → World → Prop} (h : w = w') (k : Calls P f args w' Q) : Calls P f args w Q := h ▸ k
/-- 'b[i:i+64]' -/
theorem run_slice_at (w : World) (g n c i : Nat) (I J : Int) (hI : I = ((i : Nat) : Int)) (hJ : J = ((i + 64 : Nat) : Int)) (hi : i + 64 ≤ n) (hc : n ≤ c) : (Instr.sliceAt 42 (.slice (some ⟨g, 0, none⟩) n c) (some (.int .i64 I)) (some (.int .i64 J)) none).run Tryz.prog w =
  .ok (.slice (some ⟨g, i, none⟩) 64 (c - i)) w := by
 subst hI; subst hJ
 obtain ⟨y, hy, _, hs, _⟩ := info_parts info5
 have h0 : (0 : Int) ≤ ((i : Nat) : Int) := Int.natCast_nonneg _
 have h1 : ((i : Nat) : Int) ≤ ((i + 64 : Nat) : Int) := by omega
 have h2 : (0 : Int) ≤ ((i + 64 : Nat) : Int) := Int.natCast_nonneg _
 have h3 : ((i + 64 : Nat) : Int) ≤ ((c : Nat) : Int) := by omega
 have h4 : ¬ c = i := by omega
 simp only [Instr.sliceAt, Instr.slice, Instr.sliceBounds, Instr.sliceBound, asIntOf, sizeOf, typeInfo, Sem.run_bind, Sem.run_pure, Result.andThen_ok, run_underlying Tryz.underlying42]
 rw [if_pos ⟨h2, h3⟩]
 simp only [Sem.run_pure, Result.andThen_ok, Int.toNat_natCast]
 rw [if_pos ⟨h0, h1⟩]
 simp [hy, hs, h4, Addr.add]
 intro h; omega
theorem run_exec_slice {ρ : Operand → Value} {o : Oper} {t : TypeId} {x lo hi : Operand} {vx vl vh v : Value} {w : World} (ho : o.op = .slice t x (some lo) (some hi) none) (hx : ρ x = vx) (hl : ρ lo = vl) (hh : ρ hi = vh)
  (h : (Instr.sliceAt t vx (some vl) (some vh) none).run Tryz.prog w = .ok v w) : (execOp ρ o).run Tryz.prog w = .ok (.value v) w := by
 unfold execOp
 simp [ho, hx, hl, hh, h]
theorem run_load8 {w : World} {g : Nat} {x : W8} (h : Blk w g 106 (uv (wList x)).toArray) : (Instr.loadAt 106 (.pointer (some ⟨g, 0, none⟩))).run Tryz.prog w = .ok (.agg (uv (wList x)).toArray) w := by
 refine run_loadAt_mid w g 0 8 _ 97 (uv (wList x)) (fun j v hv => ?_) Tryz.underlying106 (by rw [info38]; rfl)
 rw [Nat.zero_add, Blk.cell h, List.getElem?_toArray]
 exact hv
theorem want_store8 {ops : Array Oper} {o : Oper} {a : Act} {w : World} {K : Act → World → Prop} {Q : Exit → Act → World → Prop} {E : Prop} {x y : Operand} {g : Nat} {ws ws' : W8} (hg : o.guard = none)
  (ho : o.op = .store 106 x y) (hx : a.eval x = .pointer (some ⟨g, 0, none⟩)) (hy : a.eval y = .agg (uv (wList ws')).toArray) (h : Blk w g 106 (uv (wList ws)).toArray)
  (hK : ∀ w', Blk w' g 106 (uv (wList ws')).toArray → Turn (· = g) w w' → K (a.put o.dst undef) w') :
  if Region.wanted o (yielded ops a.tmps) = true then Oper.wp Tryz.prog o a w K Q else E := by
 have hw : Region.wanted o (yielded ops a.tmps) = true := by simp [Region.wanted, hg]
 rw [if_pos hw]
 have hr := run_storeVar_row (P := Tryz.prog) w g 106 106 _ (uv (wList ws')).toArray h (by rw [info38]; rfl) rfl (one_uv _)
 unfold Oper.wp execOp
 simp only [ho, hx, hy, Instr.storeAt, Instr.sureAddr, Sem.run_bind, Sem.run_pure, Result.andThen_ok, hr]
 exact hK _ (setRow_heap w g _ _ _ _ h) ⟨rfl, rfl, rfl, by simp, fun k hk => setRow_other w g k _ hk⟩

/-- the sum behind i bytes -/
def outAcc (X : W8) (i : Nat) : List UInt8 := (idb X).take i ++ List.replicate (32 - i) 0
theorem idb_len (X : W8) : (idb X).length = 32 := rfl
theorem outAcc_len (X : W8) (i : Nat) (hi : i ≤ 32) : (outAcc X i).length = 32 := by
 unfold outAcc; rw [List.length_append, List.length_take, idb_len, List.length_replicate]; omega
theorem outAcc_end (X : W8) : outAcc X 32 = idb X := rfl
theorem outAcc_next (X : W8) (i : Nat) (hi : i < 32) : (outAcc X i).set i ((idb X).getD i 0) = outAcc X (i + 1) := by
 unfold outAcc
 have e : 32 - i = (32 - (i + 1)) + 1 := by omega
 have hl : ((idb X).take i).length = i := by rw [List.length_take, idb_len]; omega
 rw [e, List.replicate_succ, List.set_append_right _ _ (by omega), hl, Nat.sub_self, List.take_succ_eq_append_getElem (by rw [idb_len]; exact hi), List.getD_eq_getElem?_getD, List.getElem?_eq_getElem (by rw [idb_len]; exact hi), List.append_assoc]
 rfl
theorem outAcc_set (X : W8) (i a c : Nat) (ha : a < 8) (hc : c < 4) (hi : i = 4 * a + c) (y : UInt8) (hy : y = (idb X).getD (4 * a + c) 0) : (outAcc X i).set i y = outAcc X (i + 1) := by
 rw [hy, ← hi]; exact outAcc_next X i (by omega)
theorem out0 (X : W8) (a : Nat) (ha : a < 8) : ((wList X).getD a 0 >>> 24).toUInt8 = (idb X).getD (4 * a + 0) 0 := by
 rcases lt8 ha with rfl | rfl | rfl | rfl | rfl | rfl | rfl | rfl <;> rfl
theorem out1 (X : W8) (a : Nat) (ha : a < 8) : ((wList X).getD a 0 >>> 16).toUInt8 = (idb X).getD (4 * a + 1) 0 := by
 rcases lt8 ha with rfl | rfl | rfl | rfl | rfl | rfl | rfl | rfl <;> rfl
theorem out2 (X : W8) (a : Nat) (ha : a < 8) : ((wList X).getD a 0 >>> 8).toUInt8 = (idb X).getD (4 * a + 2) 0 := by
 rcases lt8 ha with rfl | rfl | rfl | rfl | rfl | rfl | rfl | rfl <;> rfl
theorem out3 (X : W8) (a : Nat) (ha : a < 8) : ((wList X).getD a 0).toUInt8 = (idb X).getD (4 * a + 3) 0 := by
 rcases lt8 ha with rfl | rfl | rfl | rfl | rfl | rfl | rfl | rfl <;> rfl

set_option maxHeartbeats 1000000 in
set_option maxRecDepth 100000 in
theorem rsum_any (s : ByteArray) (w : World) (hs : s.size ≤ 1000000) : Calls Tryz.prog 41 #[.string s] w fun e w' => e = .returned (.agg (bv (digest s.data.toList)).toArray) ∧ Below w.heap.size w w' := by
 obtain ⟨l, hl⟩ : ∃ l, l = s.data.toList := ⟨_, rfl⟩
 have hll : l.length = s.size := by rw [hl]; exact (Lib.size_eq s).symm
 obtain ⟨w1, hw1⟩ : ∃ x, x = w.alloc (.cells (bv z32).toArray 24) := ⟨_, rfl⟩
 have hR1 : RSum w w1 := by rw [hw1]; exact ⟨Blk.new _ _ _, (Below.refl _ _).alloc (Nat.le_refl _) _⟩
 obtain ⟨v0, w2, hcv, hO2, hb2⟩ := run_to_bytes w1 (w.heap.size + 1 ≤ ·) s hR1.new
 have hR2 : RSum w w2 := hR1.turn (Turn.fresh hb2 hR1.new)
 rw [← hl] at hO2 ⊢
 have HW1 := Lib.hid hw1
 have HO2 := Lib.hid hO2
 have HR2 := Lib.hid hR2
 have HLL := Lib.hid hll
 clear hw1 hR1 hO2 hb2 hR2 hll hl
 go_enter Tryz.func41, Tryz.ntmps41
 go_upto_region 1 with fail
 refine wp_at HW1.out.symm ?_
 clear HW1
 go_wp2_with (at_builtin; go_must (refine wp_append1 rfl (.tmp 12) (.tmp 13) rfl (w.heap.size + 1 ≤ ·) _ _ l rfl HO2.out 128 128 (by decide) rfl (by have := HLL.out; omega) HR2.out.new ?_); intro v3 w3 ho3 ht3)
 have HR3 := Lib.hid (HR2.out.turn ht3)
 have HO3 := Lib.hid ho3
 clear ht3 ho3 HO2 HR2 hcv
 go_loopw [3] (fun v wr => ∃ k : Nat, k ≤ pad l.length ∧ OwnB wr (w.heap.size + 1 ≤ ·) v (l ++ 128 :: List.replicate k 0) ∧ RSum w wr) (fun v _ => l.length + 65 - slLen v)
 case atStart => exact ⟨0, Nat.zero_le _, HO3.out, HR3.out⟩
 case round =>
  clear HO3 HR3
  obtain ⟨k, hk, hO, hR⟩ := hrel
  have HO := Lib.hid hO
  have HR := Lib.hid hR
  obtain ⟨g, c, rfl, hg, hgF⟩ := hO.lt
  have hlen : (l ++ 128 :: List.replicate k 0).length = l.length + 1 + k := by simp only [List.length_append, List.length_cons, List.length_replicate]; omega
  rw [hlen]
  obtain ⟨n, hn⟩ : ∃ n, n = l.length + 1 + k := ⟨_, rfl⟩
  rw [← hn]
  have hp := pad_lt l.length
  have hnb : n ≤ 1000100 := by have := HLL.out; have := hp; omega
  have hn63 : (n : Int) < 9223372036854775807 := by have := HLL.out; omega
  have n0 : (0 : Int) ≤ (n : Int) := by omega
  have HLEN : Hid ((l ++ 128 :: List.replicate k 0).length = n) := Lib.hid (by rw [hlen, hn])
  have HN := Lib.hid hn
  have HK := Lib.hid hk
  have HP := Lib.hid hp
  rw [hlen, ← hn] at HO
  clear hO hR hlen hp
  by_cases hkp : k = pad l.length
  ·
   have ht : ((n : Int) % 64 != 56) = false := by
    have : (n : Int) % 64 = 56 := by rw [hn, hkp]; unfold pad; omega
    rw [this]; rfl
   have ht2 : ((n : Int) % 64 == 56) = true := by
    have : (n : Int) % 64 = 56 := by rw [hn, hkp]; unfold pad; omega
    rw [this]; rfl
   have HKP := Lib.hid hkp
   clear hkp hn hk
   go_wp2_with fail
   have HOE : Hid (OwnB wr (w.heap.size + 1 ≤ ·) (.slice (some ⟨g, 0, none⟩) n c) (l ++ endAcc l.length 0)) := Lib.hid (by
    have e : endAcc l.length 0 = 128 :: List.replicate k 0 := by rw [HKP.out]; unfold endAcc; rw [List.take_zero, List.append_nil]
    rw [e]; exact HO.out)
   clear HO HN HLEN HK HP HKP ht ht2 hn63 n0
   go_loopw [3, 5] (fun v i wr => ∃ k : Nat, k ≤ 8 ∧ i = .int .i64 (7 - (k : Int)) ∧ OwnB wr (w.heap.size + 1 ≤ ·) v (l ++ endAcc l.length k) ∧ RSum w wr) (fun _ i _ => (intOf i + 1).toNat)
   case atStart => exact ⟨0, by decide, rfl, HOE.out, HR.out⟩
   case round =>
    clear HOE HR
    obtain ⟨k, hk, rfl, hO, hR⟩ := hrel
    have HO := Lib.hid hO
    have HR := Lib.hid hR
    obtain ⟨g, c, rfl, hg, hgF⟩ := hO.lt
    have HLEN : Hid ((l ++ endAcc l.length k).length ≤ 1000200) := Lib.hid (by rw [List.length_append, endAcc_len _ _ hk]; have := pad_lt l.length; have := HLL.out; omega)
    clear hO hR
    by_cases hlt : k < 8
    ·
     rcases lt8 hlt with rfl | rfl | rfl | rfl | rfl | rfl | rfl | rfl
     ·
      go_wp2_with (at_builtin; go_must (refine wp_append1 rfl (.tmp 30) (.tmp 37) rfl (w.heap.size + 1 ≤ ·) _ _ (l ++ endAcc l.length 0) rfl (by exact HO.out) ((be64 (8 * l.length)).getD 0 0) _ (be64_at l.length 0 _ (by simp only [be64, List.getD_cons_zero]; rw [B_ofNat, HLL.out]; omega)) rfl (by have := HLEN.out; omega) HR.out.new ?_); intro v3 w3 ho3 ht3)
      go_roundw
      case rel =>
       refine ⟨1, by decide, rfl, ?_, HR.out.turn ht3⟩
       rw [List.append_assoc, endAcc_more l.length 0 (by decide)] at ho3
       exact ho3
      case measure => decide
     ·
      go_wp2_with (at_builtin; go_must (refine wp_append1 rfl (.tmp 30) (.tmp 37) rfl (w.heap.size + 1 ≤ ·) _ _ (l ++ endAcc l.length 1) rfl (by exact HO.out) ((be64 (8 * l.length)).getD 1 0) _ (be64_at l.length 1 _ (by simp only [be64, List.getD_cons_zero, List.getD_cons_succ]; rw [B_ofNat, HLL.out]; omega)) rfl (by have := HLEN.out; omega) HR.out.new ?_); intro v3 w3 ho3 ht3)
      go_roundw
      case rel =>
       refine ⟨2, by decide, rfl, ?_, HR.out.turn ht3⟩
       rw [List.append_assoc, endAcc_more l.length 1 (by decide)] at ho3
       exact ho3
      case measure => decide
     ·
      go_wp2_with (at_builtin; go_must (refine wp_append1 rfl (.tmp 30) (.tmp 37) rfl (w.heap.size + 1 ≤ ·) _ _ (l ++ endAcc l.length 2) rfl (by exact HO.out) ((be64 (8 * l.length)).getD 2 0) _ (be64_at l.length 2 _ (by simp only [be64, List.getD_cons_zero, List.getD_cons_succ]; rw [B_ofNat, HLL.out]; omega)) rfl (by have := HLEN.out; omega) HR.out.new ?_); intro v3 w3 ho3 ht3)
      go_roundw
      case rel =>
       refine ⟨3, by decide, rfl, ?_, HR.out.turn ht3⟩
       rw [List.append_assoc, endAcc_more l.length 2 (by decide)] at ho3
       exact ho3
      case measure => decide
     ·
      go_wp2_with (at_builtin; go_must (refine wp_append1 rfl (.tmp 30) (.tmp 37) rfl (w.heap.size + 1 ≤ ·) _ _ (l ++ endAcc l.length 3) rfl (by exact HO.out) ((be64 (8 * l.length)).getD 3 0) _ (be64_at l.length 3 _ (by simp only [be64, List.getD_cons_zero, List.getD_cons_succ]; rw [B_ofNat, HLL.out]; omega)) rfl (by have := HLEN.out; omega) HR.out.new ?_); intro v3 w3 ho3 ht3)
      go_roundw
      case rel =>
       refine ⟨4, by decide, rfl, ?_, HR.out.turn ht3⟩
       rw [List.append_assoc, endAcc_more l.length 3 (by decide)] at ho3
       exact ho3
      case measure => decide
     ·
      go_wp2_with (at_builtin; go_must (refine wp_append1 rfl (.tmp 30) (.tmp 37) rfl (w.heap.size + 1 ≤ ·) _ _ (l ++ endAcc l.length 4) rfl (by exact HO.out) ((be64 (8 * l.length)).getD 4 0) _ (be64_at l.length 4 _ (by simp only [be64, List.getD_cons_zero, List.getD_cons_succ]; rw [B_ofNat, HLL.out]; omega)) rfl (by have := HLEN.out; omega) HR.out.new ?_); intro v3 w3 ho3 ht3)
      go_roundw
      case rel =>
       refine ⟨5, by decide, rfl, ?_, HR.out.turn ht3⟩
       rw [List.append_assoc, endAcc_more l.length 4 (by decide)] at ho3
       exact ho3
      case measure => decide
     ·
      go_wp2_with (at_builtin; go_must (refine wp_append1 rfl (.tmp 30) (.tmp 37) rfl (w.heap.size + 1 ≤ ·) _ _ (l ++ endAcc l.length 5) rfl (by exact HO.out) ((be64 (8 * l.length)).getD 5 0) _ (be64_at l.length 5 _ (by simp only [be64, List.getD_cons_zero, List.getD_cons_succ]; rw [B_ofNat, HLL.out]; omega)) rfl (by have := HLEN.out; omega) HR.out.new ?_); intro v3 w3 ho3 ht3)
      go_roundw
      case rel =>
       refine ⟨6, by decide, rfl, ?_, HR.out.turn ht3⟩
       rw [List.append_assoc, endAcc_more l.length 5 (by decide)] at ho3
       exact ho3
      case measure => decide
     ·
      go_wp2_with (at_builtin; go_must (refine wp_append1 rfl (.tmp 30) (.tmp 37) rfl (w.heap.size + 1 ≤ ·) _ _ (l ++ endAcc l.length 6) rfl (by exact HO.out) ((be64 (8 * l.length)).getD 6 0) _ (be64_at l.length 6 _ (by simp only [be64, List.getD_cons_zero, List.getD_cons_succ]; rw [B_ofNat, HLL.out]; omega)) rfl (by have := HLEN.out; omega) HR.out.new ?_); intro v3 w3 ho3 ht3)
      go_roundw
      case rel =>
       refine ⟨7, by decide, rfl, ?_, HR.out.turn ht3⟩
       rw [List.append_assoc, endAcc_more l.length 6 (by decide)] at ho3
       exact ho3
      case measure => decide
     ·
      go_wp2_with (at_builtin; go_must (refine wp_append1 rfl (.tmp 30) (.tmp 37) rfl (w.heap.size + 1 ≤ ·) _ _ (l ++ endAcc l.length 7) rfl (by exact HO.out) ((be64 (8 * l.length)).getD 7 0) _ (be64_at l.length 7 _ (by simp only [be64, List.getD_cons_zero, List.getD_cons_succ]; rw [B_ofNat, HLL.out]; omega)) rfl (by have := HLEN.out; omega) HR.out.new ?_); intro v3 w3 ho3 ht3)
      go_roundw
      case rel =>
       refine ⟨8, by decide, rfl, ?_, HR.out.turn ht3⟩
       rw [List.append_assoc, endAcc_more l.length 7 (by decide)] at ho3
       exact ho3
      case measure => decide
    ·
     obtain rfl : k = 8 := by omega
     obtain ⟨P, hP⟩ : ∃ P, P = l ++ endAcc l.length 8 := ⟨_, rfl⟩
     rw [← hP] at HO HLEN
     have hPd : digest l = idb (fb P (P.length / 64)) := by rw [hP]; rfl
     have hP64 : P.length = 64 * (P.length / 64) := by
      have : P.length = l.length + (pad l.length + 1 + 8) := by rw [hP, List.length_append, endAcc_len _ _ (by omega)]
      unfold pad at this
      omega
     rw [← hP]
     obtain ⟨q, hq⟩ : ∃ q, q = P.length / 64 := ⟨_, rfl⟩
     rw [← hq] at hP64 hPd
     obtain ⟨n, hn⟩ : ∃ n, n = P.length := ⟨_, rfl⟩
     rw [← hn] at HO HLEN hP64 ⊢
     have HPD := Lib.hid hPd
     have HN := Lib.hid hn
     have HQ := Lib.hid hP64
     have HLT := Lib.hid hg
     have hnb2 : n ≤ 1000200 := HLEN.out
     clear hlt hk hP hPd hn hq hP64 HLEN hg
     go_wp2_with fail
     refine (start_any _).mono ?_; rintro e w4 ⟨rfl, hb4⟩
     have HR4 := Lib.hid (HR.out.turn (Turn.fresh hb4 HR.out.new))
     have HO4 := Lib.hid (HO.out.fresh hb4)
     have HLT4 := Lib.hid (Nat.lt_of_lt_of_le HLT.out hb4.size)
     clear hb4 HR HO HLT
     obtain ⟨H, hH⟩ : ∃ H, H = w4.heap.size := ⟨_, rfl⟩
     obtain ⟨w5, hw5⟩ : ∃ x, x = (w4.alloc (.cells (uv [0, 0, 0, 0, 0, 0, 0, 0]).toArray 106)).setRow H (uv (wList iv)).toArray := ⟨_, rfl⟩
     have hb5 : Below w4.heap.size w4 w5 := by rw [hw5, hH]; exact below_setRow ((Below.refl _ w4).alloc (Nat.le_refl _) _) (Nat.le_refl _) _
     have hh5 : Blk w5 H 106 (uv (wList iv)).toArray := by rw [hw5]; exact setRow_heap _ H (uv [0, 0, 0, 0, 0, 0, 0, 0]).toArray _ _ (0, 0) (Blk.at_ hH.symm _ _)
     have HR5 := Lib.hid (HR4.out.turn (Turn.fresh hb5 HR4.out.new))
     have HO5 := Lib.hid (HO4.out.fresh hb5)
     have hgH : Hid (g < H) := Lib.hid (by rw [hH]; exact HLT4.out)
     have hH1 : Hid (w.heap.size + 1 ≤ H) := Lib.hid (by rw [hH]; exact HR4.out.1.lt)
     have HH5 := Lib.hid hh5
     have HW5 := Lib.hid hw5
     have HHE := Lib.hid hH
     clear hw5 hb5 hh5 HR4 HO4 HLT4 hH
     go_wp2_with ((with_reducible refine wpList_store_row ?tg1 106 (.tmp 6) (.tmp 39) ?to1 w4.heap.size (uv (wList iv)).toArray ?tx1 ?ty1 106 (uv [0, 0, 0, 0, 0, 0, 0, 0]).toArray ?tb1 ?ti1 ?tl1 ?tk1 ?th1); (case tg1 => rfl); (case to1 => rfl); (case tx1 => rfl); (case ty1 => rfl); (case tb1 => exact Blk.new w4 _ (uv [0, 0, 0, 0, 0, 0, 0, 0]).toArray); (case ti1 => rw [info38]; rfl); (case tl1 => rfl); (case tk1 => exact one_uv _))
     refine calls_at (w' := w5) (by rw [HW5.out, HHE.out]; rfl) ?_
     refine (consts_any _).mono ?_; rintro e w6 ⟨rfl, hk6, hb6⟩
     obtain ⟨Kq, hKq⟩ : ∃ K, K = w5.heap.size := ⟨_, rfl⟩
     rw [← hKq] at hk6 ⊢
     have HK6 := Lib.hid hk6
     have HR6 := Lib.hid (HR5.out.turn (Turn.fresh hb6 HR5.out.new))
     have HO6 := Lib.hid (HO5.out.fresh hb6)
     have HH6 := Lib.hid (HH5.out.below hb6 HH5.out.lt)
     have HKH : Hid (H < Kq) := Lib.hid (by rw [hKq]; exact HH5.out.lt)
     rw [← HHE.out]
     clear hk6 hb6 HR5 HO5 HH5 HW5 HHE hKq
     go_wp2_with fail
     go_loopw [8] (fun v wr => ∃ m : Nat, m ≤ q ∧ v = .int .i64 (64 * (m : Int)) ∧ RSum w wr ∧ OwnB wr (w.heap.size + 1 ≤ ·) (.slice (some ⟨g, 0, none⟩) n c) P ∧ Blk wr H 106 (uv (wList (fb P m))).toArray ∧ Blk wr Kq 97 (uv kL).toArray) (fun v _ => 64 * q - (intOf v).toNat)
     case atStart => exact ⟨0, Nat.zero_le _, rfl, HR6.out, HO6.out, HH6.out, HK6.out⟩
     case round =>
      clear HR6 HO6 HH6 HK6
      obtain ⟨m, hm, rfl, hR, hO, hH, hKk⟩ := hrel
      have HR := Lib.hid hR
      have HO := Lib.hid hO
      have HH := Lib.hid hH
      have HK := Lib.hid hKk
      have nn0 : (0 : Int) ≤ (n : Int) := by omega
      have nn1 : (n : Int) ≤ 1000200 := by omega
      have m0 : (0 : Int) ≤ (m : Int) := by omega
      have hcap : n ≤ c := by
       obtain ⟨g', cap, cur, fr, hv, _, _, _, hle, _, _⟩ := hO
       cases hv
       rw [HN.out]; exact hle
      by_cases hlt : m < q
      ·
       have hle : 64 * (m : Int) + 64 ≤ (n : Int) := by have := HQ.out; omega
       have hsl := fun u : World => run_slice_at u g n c (64 * m) (64 * (m : Int)) (64 * (m : Int) + 64) (by push_cast; rfl) (by push_cast; rfl) (by have := HQ.out; omega) hcap
       have hS : Src wr g (64 * m) Kq ((P.drop (64 * m)).take 64) := by
        refine ⟨Nat.lt_trans hgH.out HH.out.lt, fun j hj => ?_, HK.out⟩
        have hgd : ((P.drop (64 * m)).take 64).getD j 0 = P.getD (64 * m + j) 0 := by
         rw [List.getD_eq_getElem?_getD, List.getD_eq_getElem?_getD, List.getElem?_take_of_lt hj, List.getElem?_drop]
        rw [hgd]
        exact hO.cell (64 * m + j) (by have := HQ.out; have := HN.out; omega)
       have HS := Lib.hid hS
       have HSL := Lib.hid hsl
       have hwr : IntKind.i64.wrap (64 * (m : Int) + 64) = 64 * (m : Int) + 64 := by rw [IntKind.wrap_i64]; omega
       clear hR hO hH hKk hS hsl
       go_wp2_with fail
       have hsl := HSL.out
       refine wp_region_any (by kernel_rfl) ?_
       refine' wpAny_take (i := 1) ?hiq1 (by kernel_rfl) (by kernel_rfl) (by kernel_rfl) ?hqq1 (Or.inl ⟨?hwq1, ?hyq1⟩) ?hrq1
       case hiq1 => (simp only [List.getElem?_toArray, List.getElem?_cons_succ, List.getElem?_cons_zero]; rfl)
       case hqq1 => exact fun _ _ _ h => h
       case hwq1 => rfl
       case hyq1 => (intro w0; go_simp; try with_reducible rfl)
       (try simp only [Act.put, List.setIfInBounds_toArray, List.set_cons_zero, List.set_cons_succ])
       refine' wpAny_take (i := 2) ?hiq2 (by kernel_rfl) (by kernel_rfl) (by kernel_rfl) ?hqq2 (Or.inl ⟨?hwq2, ?hyq2⟩) ?hrq2
       case hiq2 => (simp only [List.getElem?_toArray, List.getElem?_cons_succ, List.getElem?_cons_zero]; rfl)
       case hqq2 => exact fun _ _ _ h => h
       case hwq2 => rfl
       case hyq2 => (intro w0; go_simp; try with_reducible rfl)
       (try simp only [Act.put, List.setIfInBounds_toArray, List.set_cons_zero, List.set_cons_succ])
       refine' wpAny_take (i := 3) ?hiq3 (by kernel_rfl) (by kernel_rfl) (by kernel_rfl) ?hqq3 (Or.inl ⟨?hwq3, ?hyq3⟩) ?hrq3
       case hiq3 => (simp only [List.getElem?_toArray, List.getElem?_cons_succ, List.getElem?_cons_zero]; rfl)
       case hqq3 => exact fun _ _ _ h => h
       case hwq3 => rfl
       case hyq3 => (intro w0; go_simp; try with_reducible rfl)
       (try simp only [Act.put, List.setIfInBounds_toArray, List.set_cons_zero, List.set_cons_succ])
       refine' wpAny_take (i := 4) ?hiq4 (by kernel_rfl) (by kernel_rfl) (by kernel_rfl) ?hqq4 (Or.inl ⟨?hwq4, ?hyq4⟩) ?hrq4
       case hiq4 => (simp only [List.getElem?_toArray, List.getElem?_cons_succ, List.getElem?_cons_zero]; rfl)
       case hqq4 => exact fun _ _ _ h => h
       case hwq4 => rfl
       case hyq4 => (intro w0; go_simp; try with_reducible rfl)
       (try simp only [Act.put, List.setIfInBounds_toArray, List.set_cons_zero, List.set_cons_succ])
       refine' wpAny_take (i := 5) ?hiq5 (by kernel_rfl) (by kernel_rfl) (by kernel_rfl) ?hqq5 (Or.inl ⟨?hwq5, ?hyq5⟩) ?hrq5
       case hiq5 => (simp only [List.getElem?_toArray, List.getElem?_cons_succ, List.getElem?_cons_zero]; rfl)
       case hqq5 => exact fun _ _ _ h => h
       case hwq5 => rfl
       case hyq5 => exact fun w0 => run_exec_slice rfl rfl rfl rfl (hsl w0)
       (try simp only [Act.put, List.setIfInBounds_toArray, List.set_cons_zero, List.set_cons_succ])
       refine' wpAny_take (i := 6) ?hiq6 (by kernel_rfl) (by kernel_rfl) (by kernel_rfl) ?hqq6 (Or.inl ⟨?hwq6, ?hyq6⟩) ?hrq6
       case hiq6 => (simp only [List.getElem?_toArray, List.getElem?_cons_succ, List.getElem?_cons_zero]; rfl)
       case hqq6 => exact fun _ _ _ h => h
       case hwq6 => rfl
       case hyq6 => (intro w0; go_simp; try with_reducible rfl)
       (try simp only [Act.put, List.setIfInBounds_toArray, List.set_cons_zero, List.set_cons_succ])
       refine wpAny_ready (rs := [0]) (by kernel_rfl) (by simp) ?_
       refine' AllReady.cons ?hiq7 (fun K hK => ?hrq7) AllReady.nil
       case hiq7 => (simp only [List.getElem?_toArray, List.getElem?_cons_zero]; rfl)
       refine want_load rfl rfl rfl (run_load8 (by exact HH.out)) (hK _ _ ?_)
       clear hK K
       (try simp only [Act.put, List.setIfInBounds_toArray, List.set_cons_zero, List.set_cons_succ])
       refine wpAny_ready (rs := [7]) (by kernel_rfl) (by simp) ?_
       refine' AllReady.cons ?hiq8 (fun K hK => ?hrq8) AllReady.nil
       case hiq8 => (simp only [List.getElem?_toArray, List.getElem?_cons_succ, List.getElem?_cons_zero]; rfl)
       go_simp
       (refine (block_any (fb P m) g (64 * m) _ Kq ((P.drop (64 * m)).take 64) _ (by exact HS.out)).mono ?_; rintro e wA ⟨rfl, hbA⟩)
       refine hK _ _ ?_
       clear hK K
       (try simp only [Act.put, List.setIfInBounds_toArray, List.set_cons_zero, List.set_cons_succ])
       refine wpAny_ready (rs := [8]) (by kernel_rfl) (by simp) ?_
       refine' AllReady.cons ?hiq9 (fun K hK => ?hrq9) AllReady.nil
       case hiq9 => (simp only [List.getElem?_toArray, List.getElem?_cons_succ, List.getElem?_cons_zero]; rfl)
       refine want_store8 (ws' := fb P (m + 1)) rfl rfl rfl rfl ((by exact HH.out : Blk _ H 106 (uv (wList (fb P m))).toArray).below hbA (by exact HH.out.lt)) (fun w9 hB9 hT9 => hK _ _ ?_)
       clear hK K
       (try simp only [Act.put])
       refine wpAny_done (by kernel_rfl) ?_ _
       have hbA' : Below wr.heap.size wr wA := (Below.refl _ wr).drew.trans hbA
       have HA := HR.out.turn (Turn.fresh hbA' HR.out.new)
       have HR9 := Lib.hid (HA.turn (hT9.mono fun k hk => (by show w.heap.size + 1 ≤ k; rw [hk]; exact hH1.out)))
       have HO9 := Lib.hid ((HO.out.fresh hbA').past hT9 (Nat.ne_of_lt hgH.out))
       have HK9 := Lib.hid ((HK.out.below hbA' HK.out.lt).turn hT9 (fun e => by have := HKH.out; omega))
       have HB9 := Lib.hid hB9
       clear hbA hbA' HA hT9 hB9
       go_wp2_with fail
       go_roundw
       case rel => exact ⟨m + 1, by omega, by congr 1, HR9.out, HO9.out, HB9.out, HK9.out⟩
       case measure =>
        simp only [intOf]
        have := HQ.out
        omega
      ·
       obtain rfl : m = q := by omega
       have hle : (n : Int) < 64 * (m : Int) + 64 := by have := HQ.out; omega
       have hbd : (m : Int) ≤ 20000 := by have := HQ.out; omega
       clear hR hO hH hKk hlt hm
       obtain ⟨O, hO⟩ : ∃ O, O = wr.heap.size := ⟨_, rfl⟩
       obtain ⟨w7, hw7⟩ : ∃ x, x = wr.alloc (.cells (bv z32).toArray 24) := ⟨_, rfl⟩
       have hb7 : Below wr.heap.size wr w7 := by rw [hw7]; exact (Below.refl _ _).alloc (Nat.le_refl _) _
       have HO7 : Hid (Blk w7 O 24 (bv z32).toArray) := Lib.hid (by rw [hw7, hO]; exact Blk.new _ _ _)
       have HR7 := Lib.hid (HR.out.turn (Turn.fresh hb7 HR.out.new))
       have HH7 := Lib.hid (HH.out.below hb7 HH.out.lt)
       have HHO : Hid (H < O) := Lib.hid (by rw [hO]; exact HH.out.lt)
       have HW7 := Lib.hid hw7
       have HOE := Lib.hid hO
       clear hw7 hb7 hO HR HO HH HK
       go_upto_region 16 with fail
       refine wp_at HW7.out.symm ?_
       rw [← HOE.out]
       clear HW7 HOE
       go_wp2_with fail
       obtain ⟨X, hX⟩ : ∃ X, X = fb P m := ⟨_, rfl⟩
       rw [← hX] at HPD HH7
       clear hX
       go_loopw [10] (fun v wr => ∃ i : Nat, i ≤ 32 ∧ v = .int .i64 i ∧ RSum w wr ∧ Blk wr H 106 (uv (wList X)).toArray ∧ Blk wr O 24 (bv (outAcc X i)).toArray) (fun v _ => 32 - (intOf v).toNat)
       case atStart => exact ⟨0, Nat.zero_le _, rfl, HR7.out, HH7.out, HO7.out⟩
       case round =>
        clear HR7 HH7 HO7
        obtain ⟨i, hi, rfl, hR, hH, hO⟩ := hrel
        have HR := Lib.hid hR
        have HH := Lib.hid hH
        have HO := Lib.hid hO
        by_cases hlt : i < 32
        ·
         obtain ⟨a, ha⟩ : ∃ a, a = i / 4 := ⟨_, rfl⟩
         have ha8 : a < 8 := by omega
         obtain ⟨x, hx⟩ : ∃ x, x = (wList X).getD a 0 := ⟨_, rfl⟩
         have ck : wr.cell? ⟨H, a, none⟩ = some (.int .u32 (U x)) := by rw [hH.cell, List.getElem?_toArray, hx]; exact uv_get _ _ ha8
         obtain ⟨cv, cw⟩ : ∃ v, wr.cell? ⟨O, i, none⟩ = some v := ⟨_, by rw [hO.cell, List.getElem?_toArray]; exact bv_get _ _ (by rw [outAcc_len _ _ hi]; exact hlt)⟩
         have fw : wr.frozen? ⟨O, i, none⟩ = false := hO.frozen _
         have i0 : (0 : Int) ≤ (i : Int) := by omega
         have i1 : (i : Int) < 32 := by omega
         have hq4 : (i : Int) / 4 = (a : Int) := by omega
         have a0 : (0 : Int) ≤ (a : Int) := by omega
         have a1 : (a : Int) < 8 := by omega
         have s1 : ∀ x, U x / (16777216 : Int) = U (x >>> 24) := fun x => U_shr 24 x 24 rfl
         have s2 : ∀ x, U x / (65536 : Int) = U (x >>> 16) := fun x => U_shr 16 x 16 rfl
         have s3 : ∀ x, U x / (256 : Int) = U (x >>> 8) := fun x => U_shr 8 x 8 rfl
         have hb := U_byte
         have hnn := U_nonneg
         have HX := Lib.hid hx
         have HAE := Lib.hid ha
         clear hR hH hO hx ha
         obtain ⟨cc, hcc⟩ : ∃ cc : Nat, cc = i % 4 := ⟨_, rfl⟩
         have hc4 : cc = 0 ∨ cc = 1 ∨ cc = 2 ∨ cc = 3 := by omega
         have HCC := Lib.hid hcc
         have hr4 : (i : Int) % 4 = (cc : Int) := by omega
         clear hcc
         rcases hc4 with rfl | rfl | rfl | rfl
         ·
          go_wp2_with fail
          go_roundw
          case rel => exact ⟨i + 1, by omega, by push_cast; rfl, HR.out.turn ((Turn.refl _ _).setCell (p := ⟨O, i, none⟩) (by have := HHO.out; have := hH1.out; show w.heap.size + 1 ≤ O; omega) _), HH.out.far (p := ⟨O, i, none⟩) (Nat.ne_of_lt HHO.out) _, outAcc_set X i a 0 ha8 (by decide) (by have := HAE.out; have := HCC.out; omega) (x >>> 24).toUInt8 (by rw [HX.out]; exact out0 X a ha8) ▸ blk_bset HO.out i _⟩
          case measure => simp [intOf]; omega
         ·
          go_wp2_with fail
          go_roundw
          case rel => exact ⟨i + 1, by omega, by push_cast; rfl, HR.out.turn ((Turn.refl _ _).setCell (p := ⟨O, i, none⟩) (by have := HHO.out; have := hH1.out; show w.heap.size + 1 ≤ O; omega) _), HH.out.far (p := ⟨O, i, none⟩) (Nat.ne_of_lt HHO.out) _, outAcc_set X i a 1 ha8 (by decide) (by have := HAE.out; have := HCC.out; omega) (x >>> 16).toUInt8 (by rw [HX.out]; exact out1 X a ha8) ▸ blk_bset HO.out i _⟩
          case measure => simp [intOf]; omega
         ·
          go_wp2_with fail
          go_roundw
          case rel => exact ⟨i + 1, by omega, by push_cast; rfl, HR.out.turn ((Turn.refl _ _).setCell (p := ⟨O, i, none⟩) (by have := HHO.out; have := hH1.out; show w.heap.size + 1 ≤ O; omega) _), HH.out.far (p := ⟨O, i, none⟩) (Nat.ne_of_lt HHO.out) _, outAcc_set X i a 2 ha8 (by decide) (by have := HAE.out; have := HCC.out; omega) (x >>> 8).toUInt8 (by rw [HX.out]; exact out2 X a ha8) ▸ blk_bset HO.out i _⟩
          case measure => simp [intOf]; omega
         ·
          go_wp2_with fail
          go_roundw
          case rel => exact ⟨i + 1, by omega, by push_cast; rfl, HR.out.turn ((Turn.refl _ _).setCell (p := ⟨O, i, none⟩) (by have := HHO.out; have := hH1.out; show w.heap.size + 1 ≤ O; omega) _), HH.out.far (p := ⟨O, i, none⟩) (Nat.ne_of_lt HHO.out) _, outAcc_set X i a 3 ha8 (by decide) (by have := HAE.out; have := HCC.out; omega) x.toUInt8 (by rw [HX.out]; exact out3 X a ha8) ▸ blk_bset HO.out i _⟩
          case measure => simp [intOf]; omega
        ·
         obtain rfl : i = 32 := by omega
         have HO2 : Hid (Blk wr O 24 (bv (digest l)).toArray) := Lib.hid (by rw [HPD.out, ← outAcc_end]; exact hO)
         clear hR hH hO hlt HO HH
         go_upto_region 20 with fail
         refine wp_region_lit ?_
         refine wpList_load_row rfl 24 (.tmp 9) rfl O rfl 24 _ (0, 0) _ HO2.out Tryz.underlying24 rfl (by rw [info24]; rfl) ?_
         refine wpList_store_row rfl 24 (.tmp 2) (.tmp 73) rfl w.heap.size (bv (digest l)).toArray rfl (by simp [Act.put, Act.eval]) 24 _ HR.out.1 (by rw [info24]; rfl) rfl (one_bv _) ?_
         go_wp2_with fail
         (try simp only [Exit.inBlock, Exit.then])
         have hrow := setRow_heap wr w.heap.size _ (bv (digest l)).toArray _ _ HR.out.1
         refine bodyPost_ret (results_cell_row rfl _ _ w.heap.size 24 (bv (digest l)).toArray (0, 0) _ rfl hrow Tryz.underlying24 rfl (by rw [info24]; rfl)) rfl ⟨rfl, below_setRow HR.out.2 (Nat.le_refl _) _⟩
  ·
   have ht : ((n : Int) % 64 != 56) = true := by
    have : ¬ (n : Int) % 64 = 56 := by rw [hn]; unfold pad at hkp hk; omega
    simpa using this
   have ht2 : ((n : Int) % 64 == 56) = false := by
    have : ¬ (n : Int) % 64 = 56 := by rw [hn]; unfold pad at hkp hk; omega
    simpa using this
   have HKP := Lib.hid hkp
   clear hkp hn hk
   go_wp2_with (at_builtin; go_must (refine wp_append1 rfl (.tmp 19) (.tmp 20) rfl (w.heap.size + 1 ≤ ·) _ _ (l ++ 128 :: List.replicate k 0) rfl (by exact HO.out) 0 0 (by decide) rfl (by rw [HLEN.out]; omega) HR.out.new ?_); intro v3 w3 ho3 ht3)
   obtain ⟨g3, c3, rfl, _, _⟩ := ho3.lt
   go_roundw
   case rel =>
    refine ⟨k + 1, by have := HK.out; have := HKP.out; omega, ?_, HR.out.turn ht3⟩
    rw [List.replicate_succ', ← List.cons_append, ← List.append_assoc]
    exact ho3
   case measure =>
    simp only [slLen, List.length_append, List.length_cons, List.length_replicate, List.length_nil]
    have := HN.out; have := HK.out; have := HKP.out; have := HP.out
    omega
end Go.Proofs.YtpeneeddfgmjpaaGreatDoor.sha

namespace Go.Proofs.YtpeneeddfgmjpaaGreatDoor.kit
open Go.ChangeShapes Go.WideShapes Go.ChangeAt Go.RowKit Go.Proofs.YtpeneeddfgmjpaaGreatDoor.sha Go.Proofs.YtpeneeddfgmjpaaGreatDoor.strx

def listedH : List (String × DataW Unit) := [("petrel/sha.first", Rows.laid_petrel_sha_first), ("petrel/sha.k", Rows.laid_petrel_sha_k), ("petrel/topic.letters", Rows.laid_petrel_topic_letters)]
theorem door_metH (os : Os) (args : Array Value) : laidMetH Tryz.prog listedH ((World.doorLaid Tryz.prog 400 os).forCall (fun _ _ => 0) ⟨#[], args, []⟩).memory :=
 laidMetH_of_parts3 (fuel := 8) (laidMet_of_run' 8 (by kernel_rfl) (by kernel_rfl)) (by kernel_rfl) (by kernel_rfl)
theorem tabs_of_laid {W : World} (h : laidMetH Tryz.prog listedH W) : hdr.Tabs W := by
 rw [MakeChecks.laidMetH_plain _ _ _ (by kernel_rfl)] at h
 obtain ⟨ps, ⟨g0, t0, cs0, f0, p0, q0, hg0, ht0, hv0, hd0, ⟨g1, t1, cs1, f1, p1, q1, hg1, ht1, hv1, hd1, ⟨g2, t2, cs2, f2, p2, q2, hg2, ht2, hv2, hd2, _, _⟩, _⟩, _⟩, _, _⟩ := h
 obtain rfl := Option.some.inj (gFirst.symm.trans hg0)
 obtain rfl := Option.some.inj (gK.symm.trans hg1)
 obtain rfl := Option.some.inj (gLetters.symm.trans hg2)
 obtain rfl := Option.some.inj (tFirst.symm.trans ht0)
 obtain rfl := Option.some.inj (tK.symm.trans ht1)
 obtain rfl := Option.some.inj (tLetters.symm.trans ht2)
 have k0 := words_of_trod firstL Tryz.underlying106 _ hd0
 have k1 := words_of_trod kL Tryz.underlying141 _ hd1
 have k2 := strs_of_trod topic.letL Tryz.underlying173 _ hd2
 have c0 : ∀ j, j < 8 → W.cell? ⟨0, j, none⟩ = some (.int .u32 (U (firstL.getD j 0))) := fun j hj => by
  rw [World.var?_cell hg0 hv0 j, ← k0 j hj rfl]
  simp
 have c1 : ∀ j, j < 64 → W.cell? ⟨2, j, none⟩ = some (.int .u32 (U (kk j))) := fun j hj => by
  rw [World.var?_cell hg1 hv1 j]
  have := k1 j hj rfl
  unfold kk
  rw [← this]
  simp
 have c2 : ∀ j, j < 6 → W.cell? ⟨1, j, none⟩ = some (.string (bt (topic.letL.getD j []))) := fun j hj => by
  rw [World.var?_cell hg2 hv2 j, ← k2 j hj rfl]
  simp
 exact ⟨⟨block_lt_of_cell (c1 0 (by decide)), c0, c1⟩, block_lt_of_cell (c2 0 (by decide)), c2⟩
theorem rsum : hdr.RSum := rsum_any
end Go.Proofs.YtpeneeddfgmjpaaGreatDoor.kit
