/-
 The landed rule: above, heights of known headers by their ids, Height.
-/
import Derived.Test.YtpeneeddfgmjpaaGreatDoorMpi
import Derived.Test.YtpeneeddfgmjpaaGreatDoorRvp
import Derived.Test.YtpeneeddfgmjpaaGreatDoorRufa
namespace Go.Proofs.YtpeneeddfgmjpaaGreatDoor.rul
open Go.RowKit Go.Proofs.YtpeneeddfgmjpaaGreatDoor.mem Go.Proofs.YtpeneeddfgmjpaaGreatDoor.sha Go.Proofs.YtpeneeddfgmjpaaGreatDoor.ids Go.Proofs.YtpeneeddfgmjpaaGreatDoor.rows Go.Proofs.YtpeneeddfgmjpaaGreatDoor.hdr Go.Proofs.YtpeneeddfgmjpaaGreatDoor.hds Go.Proofs.YtpeneeddfgmjpaaGreatDoor.mpk
open Go.Proofs.YtpeneeddfgmjpaaGreatDoor.opn (zid)

set_option maxHeartbeats 4000000 in
set_option maxRecDepth 100000 in
theorem above_any (l : List Int) (v : Value) (w : World) (hv : RdC w v (nums l)) (hn : l.length ≤ 1000000) :
  Calls Tryz.prog 22 #[v] w fun e w' => e = .returned (.int .i64 (aboveL l)) ∧ w = w' := by
 obtain ⟨ad, cap, rfl⟩ := hv.form
 obtain ⟨n, hnn⟩ : ∃ n, n = (nums l).length := ⟨_, rfl⟩
 have hnl : n = l.length := hnn.trans (nums_len l)
 have HV := Lib.hid hv
 have HNL := Lib.hid hnl
 have hn : n ≤ 1000000 := by omega
 rw [← hnn] at HV ⊢
 clear hv hnn hnl
 go_enter Tryz.func22, Tryz.ntmps22
 go_wp2_with fail
 go_loopw [3, 8] (fun m i wr => ∃ k : Nat, k ≤ n ∧ i = .int .i64 (k : Int) ∧ m = .int .i64 ((l.take k).foldl max 0) ∧ w = wr) (fun _ i _ => n - (intOf i).toNat)
 case atStart => exact ⟨0, Nat.zero_le _, rfl, by simp, rfl⟩
 case round =>
  obtain ⟨k, hk, rfl, rfl, rfl⟩ := hrel
  have k0 : (0 : Int) ≤ (k : Int) := Int.natCast_nonneg _
  by_cases hlt : k < n
  ·
   have kI : (k : Int) < (n : Int) := by omega
   have hkP : k < l.length := by rw [← HNL.out]; exact hlt
   obtain ⟨b, off, rfl, hbb, hc⟩ := HV.out.cell (i := k) (by rw [nums_len]; exact hkP)
   rw [nums_get hkP] at hc
   have HM : Hid ((l.take (k + 1)).foldl max 0 = max ((l.take k).foldl max 0) (l.getD k 0)) := Lib.hid (by
    rw [List.take_add_one, List.getElem?_eq_getElem hkP, Option.toList_some, List.foldl_append, List.getD_eq_getElem?_getD, List.getElem?_eq_getElem hkP]; rfl)
   obtain ⟨m, hm⟩ : ∃ m, m = (l.take k).foldl max 0 := ⟨_, rfl⟩
   obtain ⟨x, hx⟩ : ∃ x, x = l.getD k 0 := ⟨_, rfl⟩
   rw [← hm, ← hx] at HM
   rw [← hm]
   rw [← hx] at hc
   clear hm hx hkP hbb
   go_wp2_with fail
   go_roundw
   case rel => exact ⟨k + 1, hlt, by push_cast; rfl, by rw [HM.out], trivial⟩
   case measure => simp [intOf]; omega
  ·
   obtain rfl : k = n := by omega
   have HE : Hid (aboveL l = min ((l.take k).foldl max 0) 1073741824 + 1) := Lib.hid (by
    rw [List.take_of_length_le (by rw [← HNL.out]; exact Nat.le_refl _)]; rfl)
   clear hlt
   have h1 := fmax_ge (l.take k) 0
   obtain ⟨m, hm⟩ : ∃ m, m = (l.take k).foldl max 0 := ⟨_, rfl⟩
   rw [← hm] at HE h1 ⊢
   have hw : IntKind.i64.wrap (min m 1073741824 + 1) = min m 1073741824 + 1 := by
    rw [IntKind.wrap_i64]; omega
   clear hm h1
   go_wp2_with fail
   go_ret
   exact ⟨by rw [HE.out]; rfl, rfl⟩

/-- known headers' heights by their ids, in a map -/
def ToldB (w : World) (b : Nat) (K : List Hd) : Prop := ∃ m : List (Id × Value), MapB idv (fun x : Id => x.length = 32) w b m ∧ ∀ x : Id, x.length = 32 → findM m x = (toldF K x).map (.int .i64 ·)
theorem ToldB.below {w w' : World} {b B : Nat} {K : List Hd} (h : ToldB w b K) (hb : Below B w w') (hB : b < B) : ToldB w' b K := by
 obtain ⟨m, h1, h2⟩ := h
 exact ⟨m, h1.below hb hB, h2⟩
theorem ToldB.turn {F : Nat → Prop} {w w' : World} {b : Nat} {K : List Hd} (h : ToldB w b K) (ht : Turn F w w') (hF : ¬ F b) : ToldB w' b K := by
 obtain ⟨m, h1, h2⟩ := h
 exact ⟨m, h1.turn ht hF, h2⟩
theorem ToldB.lt {w : World} {b : Nat} {K : List Hd} (h : ToldB w b K) : b < w.heap.size := by
 obtain ⟨m, h1, -⟩ := h
 exact h1.lt
theorem mt_map : Tryz.prog.underlying 48 = some (.map 24 3) := Tryz.underlying48
theorem zero_num (w : World) : (zeroValue 3).run Tryz.prog w = .ok (.int .i64 0) w := Tryz.zeroValue3 w
/-- what is told of an id -/
theorem ToldB.ask {w : World} {b : Nat} {K : List Hd} (h : ToldB w b K) {x : Id} (hx : x.length = 32) :
  (Instr.lookup 48 (.map (some b)) (idv x) true).run Tryz.prog w = .ok (.tuple #[.int .i64 ((toldF K x).getD 0), .bool (toldF K x).isSome]) w := by
 obtain ⟨m, h1, h2⟩ := h
 have := h1.lookup id_key mt_map zero_num hx true
 rw [h2 x hx] at this
 cases ht : toldF K x with
 | none => rw [ht] at this; simpa using this
 | some z => rw [ht] at this; simpa using this
/-- one more is told of -/
theorem ToldB.tell {w : World} {b : Nat} {K : List Hd} (h : ToldB w b K) (k : Hd) (h0 : (idH k).2 = 0) :
  ∃ w', (Instr.mapUpdate 48 (.map (some b)) (idv (idH k).1) (.int .i64 k.height)).run Tryz.prog w = .ok () w' ∧ ToldB w' b (K ++ [k]) ∧ Turn (· = b) w w' := by
 obtain ⟨m, h1, h2⟩ := h
 obtain ⟨w', hr, hm, ht, -⟩ := h1.store id_key mt_map (idH_len k) (.int .i64 k.height)
 refine ⟨w', hr, ⟨_, hm, fun x hx => ?_⟩, ht⟩
 rw [told_snoc]
 by_cases e : (idH k).1 = x
 ·
  rw [if_pos (isId_iff.2 ⟨h0, e⟩), ← e, findM_put_same]; rfl
 ·
  rw [if_neg (fun hh => e (isId_iff.1 hh).2), findM_put_other _ (fun hh => e hh.symm), h2 x hx]
theorem told_err {K : List Hd} {k : Hd} (h0 : (idH k).2 ≠ 0) (x : Id) : toldF (K ++ [k]) x = toldF K x := by
 rw [told_snoc, if_neg (fun hh => h0 (isId_iff.1 hh).1)]
theorem ToldB.skip {w : World} {b : Nat} {K : List Hd} (h : ToldB w b K) {k : Hd} (h0 : (idH k).2 ≠ 0) : ToldB w b (K ++ [k]) := by
 obtain ⟨m, h1, h2⟩ := h
 exact ⟨m, h1, fun x hx => by rw [told_err h0]; exact h2 x hx⟩
theorem take_hs_succ {P : HP} {k : Nat} (h : k < P.length) : (hs P).take (k + 1) = (hs P).take k ++ [(P.getD k zhp).1] := by
 rw [List.take_add_one, hs_get h]; rfl
end Go.Proofs.YtpeneeddfgmjpaaGreatDoor.rul
