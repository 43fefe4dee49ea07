/-
 What topic's Kind and Check answer: a table of six letters (topic.letters).
-/
import Derived.Test.YtpeneeddfgmjpaaGreatDoorHdia
import Derived.Deep.RegionHeld3
import Derived.Test.YtpeneeddfgmjpaaGreatDoorIda
import Derived.Laws.RangeAny
namespace Go.Proofs.YtpeneeddfgmjpaaGreatDoor.topic
open Go.RowKit Go.Proofs.YtpeneeddfgmjpaaGreatDoor.mem Go.Proofs.YtpeneeddfgmjpaaGreatDoor.sha Go.Proofs.YtpeneeddfgmjpaaGreatDoor.strx

def letL : List (List UInt8) := [[], [99], [115], [108], [109], [114]]
/-- the table lies in block 0 -/
def Tab (w : World) : Prop := 1 + 1 ≤ w.heap.size ∧ ∀ j, j < 6 → w.cell? ⟨1, j, none⟩ = some (.string (bt (letL.getD j [])))
theorem Tab.next {w w' : World} (h : Tab w) (hb : Below w.heap.size w w') : Tab w' :=
 ⟨Nat.le_trans h.1 hb.size, fun j hj => (hb.cell (p := ⟨1, j, none⟩) (Nat.lt_of_lt_of_le (show 1 < 1 + 1 by decide) h.1)).trans (h.2 j hj)⟩

def signOf (r : Int) : Bool := (decide (97 ≤ r) && decide (r ≤ 122)) || (decide (48 ≤ r) && decide (r ≤ 57))
set_option maxHeartbeats 1000000 in
set_option maxRecDepth 100000 in
theorem sign_any (r : Int) (w : World) : Calls Tryz.prog 131 #[.int .i32 r] w fun e w' => e = .returned (.bool (signOf r)) ∧ w = w' := by
 by_cases h1 : 122 < r
 ·
  have a1 : 97 ≤ r := by omega
  have a2 : 48 ≤ r := by omega
  have a3 : 57 < r := by omega
  have hs : Hid (signOf r = false) := Lib.hid (by unfold signOf; simp; omega)
  go_enter Tryz.func131, Tryz.ntmps131
  go_wp2_with fail
  go_ret
  exact ⟨by rw [hs.out]; simp <;> omega, rfl⟩
 by_cases h2 : 97 ≤ r
 ·
  have a1 : r ≤ 122 := by omega
  have hs : Hid (signOf r = true) := Lib.hid (by unfold signOf; simp; omega)
  go_enter Tryz.func131, Tryz.ntmps131
  go_wp2_with fail
  go_ret
  exact ⟨by rw [hs.out]; simp <;> omega, rfl⟩
 have h2' : r < 97 := by omega
 by_cases h3 : 57 < r
 ·
  have a1 : 48 ≤ r := by omega
  have hs : Hid (signOf r = false) := Lib.hid (by unfold signOf; simp; omega)
  go_enter Tryz.func131, Tryz.ntmps131
  go_wp2_with fail
  go_ret
  exact ⟨by rw [hs.out]; simp <;> omega, rfl⟩
 have h3' : r ≤ 57 := by omega
 by_cases h4 : 48 ≤ r
 ·
  have hs : Hid (signOf r = true) := Lib.hid (by unfold signOf; simp; omega)
  go_enter Tryz.func131, Tryz.ntmps131
  go_wp2_with fail
  go_ret
  exact ⟨by rw [hs.out]; simp <;> omega, rfl⟩
 ·
  have a1 : r < 48 := by omega
  have hs : Hid (signOf r = false) := Lib.hid (by unfold signOf; simp; omega)
  go_enter Tryz.func131, Tryz.ntmps131
  go_wp2_with fail
  go_ret
  exact ⟨by rw [hs.out]; simp <;> omega, rfl⟩

/-- what may stand behind a letter -/
def restOf (l : List UInt8) : Bool := decide (1 ≤ l.length) && decide (l.length ≤ 11) && !decide (B (l.getD (l.length - 1) 0) = 45) && l.all okByte
theorem all_ok (l : List UInt8) : l.all okByte = true ↔ ∀ j, j < l.length → okByte (l.getD j 0) = true := by
 have h := all_drop (0 :: l)
 rw [show (0 :: l).drop 1 = l from rfl] at h
 rw [h]
 constructor
 ·
  intro a j hj
  have := a (j + 1) (by omega) (by rw [List.length_cons]; omega)
  rwa [List.getD_cons_succ] at this
 ·
  intro a j h1 h2
  obtain ⟨i, rfl⟩ : ∃ i, j = i + 1 := ⟨j - 1, by omega⟩
  rw [List.getD_cons_succ]
  exact a i (by rw [List.length_cons] at h2; omega)
theorem restOf_true (l : List UInt8) : restOf l = true ↔ 1 ≤ l.length ∧ l.length ≤ 11 ∧ ¬ B (l.getD (l.length - 1) 0) = 45 ∧ ∀ j, j < l.length → okByte (l.getD j 0) = true := by
 unfold restOf
 rw [Bool.and_eq_true, Bool.and_eq_true, Bool.and_eq_true, decide_eq_true_iff, decide_eq_true_iff, Bool.not_eq_true', decide_eq_false_iff_not, all_ok, and_assoc, and_assoc]
theorem restOf_short (l : List UInt8) (h : l.length < 1) : restOf l = false := by
 rw [← Bool.not_eq_true, restOf_true]; rintro ⟨a, _⟩; omega
theorem restOf_long (l : List UInt8) (h : 11 < l.length) : restOf l = false := by
 rw [← Bool.not_eq_true, restOf_true]; rintro ⟨_, a, _⟩; omega
theorem restOf_dash (l : List UInt8) (h : B (l.getD (l.length - 1) 0) = 45) : restOf l = false := by
 rw [← Bool.not_eq_true, restOf_true]; rintro ⟨_, _, a, _⟩; exact a h
theorem restOf_bad (l : List UInt8) (j : Nat) (hj : j < l.length) (h : okByte (l.getD j 0) = false) : restOf l = false := by
 rw [← Bool.not_eq_true, restOf_true]; rintro ⟨_, _, _, a⟩; rw [a j hj] at h; exact absurd h (by decide)
theorem kindOf_rest (l : List UInt8) (h : 1 ≤ l.length) : kindOf l = if restOf (l.drop 1) = true then kindB (l.getD 0 0) else 0 := by
 have hl : (l.drop 1).length = l.length - 1 := List.length_drop
 by_cases c1 : l.length = 1
 ·
  rw [kindOf_short l (by omega), restOf_short _ (by omega)]; rfl
 have hg : (l.drop 1).getD ((l.drop 1).length - 1) 0 = l.getD (l.length - 1) 0 := by
  rw [drop_get, hl]; congr 1; omega
 unfold kindOf
 by_cases c : restOf (l.drop 1) = true
 ·
  rw [if_pos c]
  obtain ⟨a, b, d, f⟩ := (restOf_true _).1 c
  rw [hg] at d
  rw [if_pos ⟨by omega, by omega, d, (all_ok _).2 f⟩]
 ·
  rw [if_neg c]
  rw [if_neg]
  rintro ⟨a, b, d, f⟩
  exact c ((restOf_true _).2 ⟨by omega, by omega, by rw [hg]; exact d, (all_ok _).1 f⟩)

theorem get_data (s : ByteArray) (k : Nat) (h : k < s.size) : ((s[k]'h).toNat : Int) = B (s.data.toList.getD k 0) := by
 rw [List.getD_eq_getElem?_getD, List.getElem?_eq_getElem (by rw [← size_list]; exact h)]
 rfl
theorem next_low (w : World) (s : ByteArray) (k : Nat) (ty : TypeId) (h : k < s.size) (ha : B (s.data.toList.getD k 0) < 128) :
  (Instr.next (.pointer (some ⟨w.heap.size, 0, none⟩)) true ty).run Tryz.prog (w.iter s k) = .ok (.tuple #[.bool true, .int .i64 k, .int .i32 (B (s.data.toList.getD k 0))]) (w.iter s (k + 1)) := by
 rw [← get_data s k h] at ha ⊢
 exact run_next_ascii w s k ty h (by omega)
theorem next_high (w : World) (s : ByteArray) (k : Nat) (h : k < s.size) (ha : 128 ≤ B (s.data.toList.getD k 0)) :
  ∃ r w', 128 ≤ r ∧ w.iter s k = w.iter s k ∧ Below w.heap.size w w' ∧ ∀ ty, (Instr.next (.pointer (some ⟨w.heap.size, 0, none⟩)) true ty).run Tryz.prog (w.iter s k) = .ok (.tuple #[.bool true, .int .i64 k, .int .i32 r]) w' := by
 rw [← get_data s k h] at ha
 refine ⟨((Utf8.decode s k).1 : Int), w.iter s (k + (Utf8.decode s k).2), ?_, rfl, ?_, fun ty => run_next_any w s k ty h⟩
 ·
  have := (decode_high s k h (by omega)).1
  omega
 ·
  exact (Below.refl _ _).alloc (Nat.le_refl _) _
theorem iter_below (w : World) (s : ByteArray) (k : Nat) : Below w.heap.size w (w.iter s k) := (Below.refl _ _).alloc (Nat.le_refl _) _

set_option maxHeartbeats 2000000 in
set_option maxRecDepth 100000 in
theorem rest_any (s : ByteArray) (w : World) (hs : s.size ≤ 281474976710656) : Calls Tryz.prog 101 #[.string s] w fun e w' => e = .returned (.bool (restOf s.data.toList)) ∧ Below w.heap.size w w' := by
 have HL := Lib.hid (size_list s)
 by_cases c1 : s.size = 0
 ·
  have he : s = ByteArray.empty := ByteArray.size_eq_zero_iff.1 c1
  subst he
  go_enter Tryz.func101, Tryz.ntmps101
  go_wp2_with fail
  go_ret
  exact ⟨rfl, Below.refl _ _⟩
 have hne : (s.toList == []) = false := by
  rw [beq_eq_false_iff_ne]
  intro h
  rw [ByteArray.toList_eq] at h
  exact c1 (by rw [size_list, h]; rfl)
 by_cases c2 : 12 ≤ s.size
 ·
  have i1 : (12 : Int) ≤ (s.size : Int) := by omega
  have hk : Hid (restOf s.data.toList = false) := Lib.hid (restOf_long s.data.toList (by rw [← size_list]; omega))
  go_enter Tryz.func101, Tryz.ntmps101
  go_wp2_with fail
  go_ret
  exact ⟨by rw [hk.out]; simp <;> omega, Below.refl _ _⟩
 have i1 : (s.size : Int) < 12 := by omega
 go_enter Tryz.func101, Tryz.ntmps101
 go_wp2_with fail
 go_loopw [] (fun wr => ∃ k : Nat, k ≤ s.size ∧ (∀ j, j < k → okByte (s.data.toList.getD j 0) = true) ∧ (k = s.size → ¬ B (s.data.toList.getD (s.size - 1) 0) = 45) ∧ wr = w.iter s k) (fun wr => s.size - wr.iterPos w.heap.size)
 case atStart => exact ⟨0, by omega, fun j _ => by omega, fun h => absurd h.symm c1, rfl⟩
 case round =>
  obtain ⟨k, hk, hok, hlast, rfl⟩ := hrel
  have HOK := Lib.hid hok
  have HLAST := Lib.hid hlast
  clear hok hlast
  have k0 : (0 : Int) ≤ (k : Int) := Int.natCast_nonneg _
  by_cases hlt : k < s.size
  ·
   have kI : (k : Int) < (s.size : Int) := by omega
   obtain ⟨x, hx1⟩ : ∃ x, x = s.data.toList.getD k 0 := ⟨_, rfl⟩
   have HX := Lib.hid hx1
   have HK : Hid (okByte x = false → restOf s.data.toList = false) := Lib.hid fun h => restOf_bad _ k (by rw [← size_list]; exact hlt) (by rw [← HX.out]; exact h)
   have HG : Hid (okByte x = true → ∀ j, j < k + 1 → okByte (s.data.toList.getD j 0) = true) := Lib.hid fun h j b => by
    rcases Nat.lt_or_ge j k with hj | hj
    ·
     exact HOK.out j hj
    ·
     obtain rfl : j = k := by omega
     rw [← HX.out]; exact h
   by_cases hi : 128 ≤ B x
   ·
    obtain ⟨r, w1, hr, -, hb, hnx⟩ := next_high w s k hlt (by rw [← hx1]; exact hi)
    have HB := Lib.hid hb
    have HO : Hid (restOf s.data.toList = false) := Lib.hid (HK.out (by unfold okByte; simp; omega))
    have hsg : signOf r = false := by unfold signOf; simp; omega
    have hr45 : (r != 45) = true := bne_iff_ne.2 (by omega)
    clear hb hi hx1 hr
    go_wp2_with (go_at_call 131; refine (sign_any _ _).mono ?_; rw [hsg]; rintro e w2 ⟨rfl, rfl⟩)
    go_ret
    exact ⟨by rw [HO.out]; rfl, HB.out⟩
   have hnx := fun ty => next_low w s k ty hlt (by rw [← hx1]; omega)
   rw [← hx1] at hnx
   clear hx1
   by_cases hsg : signOf (B x) = true
   ·
    have HO : Hid (okByte x = true) := Lib.hid (by unfold signOf at hsg; unfold okByte; rw [hsg]; rfl)
    have HD : Hid (¬ B x = 45) := Lib.hid (fun h => by rw [h] at hsg; exact absurd hsg (by decide))
    clear hi
    go_wp2_with (go_at_call 131; refine (sign_any _ _).mono ?_; rw [hsg]; rintro e w2 ⟨rfl, rfl⟩)
    exact ⟨⟨k + 1, hlt, HG.out HO.out, fun h => by rw [← h, Nat.add_sub_cancel, ← HX.out]; exact HD.out, rfl⟩, by simp; omega⟩
   have hsg' : signOf (B x) = false := by simpa using hsg
   clear hsg
   by_cases h45 : B x = 45
   ·
    have HO : Hid (okByte x = true) := Lib.hid (by unfold okByte; rw [h45]; rfl)
    by_cases hend : k = s.size - 1
    ·
     have e1 : ((k : Int) == (s.size : Int) - 1) = true := beq_iff_eq.2 (by omega)
     have HR : Hid (restOf s.data.toList = false) := Lib.hid (restOf_dash _ (by rw [← size_list, ← hend, ← HX.out]; exact h45))
     have H45 := Lib.hid h45
     rw [h45] at hnx hsg'
     clear hend h45 hi
     go_wp2_with (go_at_call 131; refine (sign_any _ _).mono ?_; rw [hsg']; rintro e w2 ⟨rfl, rfl⟩)
     go_ret
     exact ⟨by rw [HR.out]; simp [e1], iter_below _ _ _⟩
    ·
     have e1 : ((k : Int) == (s.size : Int) - 1) = false := beq_eq_false_iff_ne.2 (by omega)
     have HE := Lib.hid hend
     rw [h45] at hnx hsg'
     clear hend h45 hi
     go_wp2_with (go_at_call 131; refine (sign_any _ _).mono ?_; rw [hsg']; rintro e w2 ⟨rfl, rfl⟩)
     exact ⟨⟨k + 1, hlt, HG.out HO.out, fun h => by have := HE.out; omega, rfl⟩, by simp; omega⟩
   ·
    have HO : Hid (restOf s.data.toList = false) := Lib.hid (HK.out (by
     have he : okByte x = (signOf (B x) || decide (B x = 45)) := rfl
     rw [he, hsg', decide_eq_false h45]; rfl))
    have e1 : (B x != 45) = true := bne_iff_ne.2 h45
    clear h45 hi
    go_wp2_with (go_at_call 131; refine (sign_any _ _).mono ?_; rw [hsg']; rintro e w2 ⟨rfl, rfl⟩)
    go_ret
    exact ⟨by rw [HO.out]; rfl, iter_below _ _ _⟩
  ·
   obtain rfl : k = s.size := by omega
   have hnx := fun ty => run_next_end (P := Tryz.prog) w s s.size ty hlt
   have HR : Hid (restOf s.data.toList = true) := Lib.hid ((restOf_true _).2 ⟨by rw [← size_list]; omega, by rw [← size_list]; omega, by rw [← size_list]; exact HLAST.out rfl, fun j hj => HOK.out j (by rw [size_list]; exact hj)⟩)
   clear hlt hk
   go_wp2_with fail
   go_ret
   exact ⟨by rw [HR.out]; rfl, iter_below _ _ _⟩

theorem bt_one (a c : UInt8) : ((bt [a]).toList == (bt [c]).toList) = (B a == B c) := by
 rw [bt_beq, Bool.eq_iff_iff, decide_eq_true_iff, beq_iff_eq]
 constructor
 ·
  intro h; simp only [List.cons.injEq, and_true] at h; rw [h]
 ·
  intro h
  unfold B at h
  rw [UInt8.toNat_inj.1 (Int.ofNat.inj h)]
def letV : List Value := letL.map fun l => Value.string (bt l)
set_option maxRecDepth 100000 in
theorem letters_load (w : World) (hT : Tab w) : (Instr.loadAt 173 (.pointer (some ⟨1, 0, none⟩))).run Tryz.prog w = .ok (.agg letV.toArray) w := by
 refine run_load_mid w 1 0 6 173 9 letV (fun j v hv => ?_) Tryz.underlying173 (by kernel_rfl)
 have hj : j < 6 := (List.getElem?_eq_some_iff.1 hv).1
 rw [Nat.zero_add, hT.2 j hj]
 rw [← hv]
 rcases (show j = 0 ∨ j = 1 ∨ j = 2 ∨ j = 3 ∨ j = 4 ∨ j = 5 by omega) with rfl | rfl | rfl | rfl | rfl | rfl <;> rfl

set_option maxHeartbeats 2000000 in
set_option maxRecDepth 100000 in
theorem kindof_any (c : UInt8) (w : World) (hT : Tab w) : Calls Tryz.prog 102 #[.string (bt [c])] w fun e w' => e = .returned (.int .i64 (kindB c)) ∧ Below w.heap.size w w' := by
 have hld := letters_load w hT
 have hix : ∀ (k : Nat) (w : World), k < 6 → (Instr.index 173 (.agg letV.toArray) (.int .i64 (k : Int))).run Tryz.prog w = .ok (.string (bt (letL.getD k []))) w := fun k w hk => by
  rcases (show k = 0 ∨ k = 1 ∨ k = 2 ∨ k = 3 ∨ k = 4 ∨ k = 5 by omega) with rfl | rfl | rfl | rfl | rfl | rfl <;> kernel_rfl
 have HIX := Lib.hid hix
 obtain ⟨V, hV⟩ : ∃ V, V = Value.agg letV.toArray := ⟨_, rfl⟩
 rw [← hV] at hld hix
 clear hix hT
 have HV := Lib.hid hV
 clear hV
 go_enter Tryz.func102, Tryz.ntmps102
 go_wp2_with ((with_reducible refine step_load (t := 173) (x := .global 1) (p := ?lpa) (v := ?lva) ?lga ?loa ?lxa ?lra ?lha); (case lga => rfl); (case loa => rfl); (case lxa => rfl); (case lra => exact hld))
 go_loopw [6] (fun i wr => ∃ k : Nat, k ≤ 6 ∧ i = .int .i64 k ∧ (∀ j, j < k → ((bt (letL.getD j [])).toList == (bt [c]).toList) = false) ∧ wr = w) (fun i _ => 6 - (intOf i).toNat)
 case atStart => exact ⟨0, by decide, rfl, fun j _ => by omega, rfl⟩
 case round =>
  obtain ⟨k, hk, rfl, hno, rfl⟩ := hrel
  have HNO := Lib.hid hno
  clear hno
  have k0 : (0 : Int) ≤ (k : Int) := Int.natCast_nonneg _
  by_cases hlt : k < 6
  ·
   have kI : (k : Int) < 6 := by omega
   have hix : ∀ u, (Instr.index 173 V (.int .i64 (k : Int))).run Tryz.prog u = .ok (.string (bt (letL.getD k []))) u := fun u => by rw [HV.out]; exact HIX.out k u hlt
   obtain ⟨t, ht⟩ : ∃ t, t = letL.getD k [] := ⟨_, rfl⟩
   rw [← ht] at hix
   have HT := Lib.hid ht
   clear ht
   cases hq : ((bt t).toList == (bt [c]).toList) with
   | true =>
    have HR : Hid ((k : Int) = (kindB c : Int)) := Lib.hid (by
     have hq' : t = [c] := by rw [bt_beq] at hq; exact of_decide_eq_true hq
     rw [HT.out] at hq'
     rcases (show k = 0 ∨ k = 1 ∨ k = 2 ∨ k = 3 ∨ k = 4 ∨ k = 5 by omega) with rfl | rfl | rfl | rfl | rfl | rfl
     ·
      exact absurd (congrArg List.length hq') (by simp [letL])
     all_goals (injection hq' with hq'; subst hq'; rfl))
    go_wp2_with fail
    go_ret
    exact ⟨by rw [← HR.out]; rfl, Below.refl _ _⟩
   | false =>
    have HN : Hid (∀ j, j < k + 1 → ((bt (letL.getD j [])).toList == (bt [c]).toList) = false) := Lib.hid fun j hj => by
     rcases Nat.lt_or_ge j k with h | h
     ·
      exact HNO.out j h
     ·
      obtain rfl : j = k := by omega
      rw [← HT.out]; exact hq
    go_wp2_with fail
    exact ⟨⟨k + 1, hlt, by simp, HN.out, trivial⟩, by simp [intOf]; omega⟩
  ·
   obtain rfl : k = 6 := by omega
   have HR : Hid (kindB c = 0) := Lib.hid (kindB_none c fun j h1 h6 => by
    have h := HNO.out j h6
    rw [← bt_one, ← h]
    rcases (show j = 1 ∨ j = 2 ∨ j = 3 ∨ j = 4 ∨ j = 5 by omega) with rfl | rfl | rfl | rfl | rfl <;> rfl)
   go_wp2_with fail
   go_ret
   exact ⟨by rw [HR.out]; rfl, Below.refl _ _⟩

theorem bt_drop_size (s : ByteArray) (m : Nat) : (bt (s.data.toList.drop m)).size = s.size - m := by rw [bt_size, List.length_drop, ← size_list]
theorem empty_ne (s : ByteArray) (h : ¬ s.size = 0) : (s.toList == []) = false := by
 rw [beq_eq_false_iff_ne]
 intro e
 rw [ByteArray.toList_eq] at e
 exact h (by rw [size_list, e]; rfl)
theorem empty_is (s : ByteArray) (h : ¬ s.size = 0) : s.toList.isEmpty = false := by
 rw [ByteArray.toList_eq]
 cases hs : s.data.toList with
 | nil => exact absurd (by rw [size_list, hs]; rfl) h
 | cons a l => rfl
theorem take_one (s : ByteArray) (h : ¬ s.size = 0) : s.data.toList.take 1 = [s.data.toList.getD 0 0] := by
 have hl : 0 < s.data.toList.length := by rw [← size_list]; omega
 cases hs : s.data.toList with
 | nil => rw [hs] at hl; simp at hl
 | cons a l => rfl

set_option maxHeartbeats 2000000 in
set_option maxRecDepth 100000 in
theorem kind_any (s : ByteArray) (w : World) (hT : Tab w) (hs : s.size ≤ 281474976710656) : Calls Tryz.prog 78 #[.string s] w fun e w' => e = .returned (.int .i64 (kindOf s.data.toList)) ∧ Below w.heap.size w w' := by
 have HT := Lib.hid hT
 clear hT
 by_cases c1 : s.size = 0
 ·
  have he : s = ByteArray.empty := ByteArray.size_eq_zero_iff.1 c1
  subst he
  go_enter Tryz.func78, Tryz.ntmps78
  go_wp2_with fail
  go_ret
  exact ⟨rfl, Below.refl _ _⟩
 have hne := empty_is s c1
 have hsl : ∀ u, (Instr.sliceAt 9 (.string s) (some (.int .i64 1)) none none).run Tryz.prog u = .ok (.string (bt (s.data.toList.drop 1))) u := fun u => run_slice_str s 1 (by omega) u
 have hst : ∀ u, (Instr.sliceAt 9 (.string s) none (some (.int .i64 1)) none).run Tryz.prog u = .ok (.string (bt (s.data.toList.take 1))) u := fun u => run_slice_to s 1 (by omega) u
 rw [take_one s c1] at hst
 have HK := Lib.hid (kindOf_rest s.data.toList (by rw [← size_list]; omega))
 have HR := Lib.hid (rest_any (bt (s.data.toList.drop 1)) w (by rw [bt_drop_size]; omega))
 rw [bt_list] at HR
 obtain ⟨b, hb⟩ : ∃ b, restOf (s.data.toList.drop 1) = b := ⟨_, rfl⟩
 rw [hb] at HR HK
 clear hb
 obtain ⟨t, ht⟩ : ∃ t, t = s.data.toList.drop 1 := ⟨_, rfl⟩
 rw [← ht] at HR hsl
 obtain ⟨x, hx⟩ : ∃ x, x = s.data.toList.getD 0 0 := ⟨_, rfl⟩
 rw [← hx] at HK hst
 clear ht hx
 cases b with
 | false =>
  go_enter Tryz.func78, Tryz.ntmps78
  go_wp2_with (go_at_call 101; refine HR.out.mono ?_; rintro e w1 ⟨rfl, hb1⟩)
  go_ret
  exact ⟨by rw [HK.out]; rfl, hb1⟩
 | true =>
  go_enter Tryz.func78, Tryz.ntmps78
  go_wp2_with (first
   | (go_at_call 101; refine HR.out.mono ?_; rintro e w1 ⟨rfl, hb1⟩)
   | (go_at_call 102; refine (kindof_any _ _ (HT.out.next hb1)).mono ?_; rintro e w2 ⟨rfl, hb2⟩))
  go_ret
  exact ⟨by rw [HK.out]; rfl, hb1.trans (hb2.mono hb1.size)⟩

set_option maxHeartbeats 1000000 in
set_option maxRecDepth 100000 in
theorem check_any (s : ByteArray) (w : World) (hT : Tab w) (hs : s.size ≤ 281474976710656) : Calls Tryz.prog 50 #[.string s] w fun e w' => e = .returned (.int .i64 (checkOf s.data.toList)) ∧ Below w.heap.size w w' := by
 have HK := Lib.hid (kind_any s w hT hs)
 have hc : Hid (checkOf s.data.toList = if kindOf s.data.toList = 0 then 9 else 0) := Lib.hid rfl
 clear hT
 obtain ⟨k, hk⟩ : ∃ k, kindOf s.data.toList = k := ⟨_, rfl⟩
 rw [hk] at HK hc
 clear hk
 by_cases h0 : k = 0
 ·
  subst h0
  go_enter Tryz.func50, Tryz.ntmps50
  go_wp2_with (go_at_call 78; refine HK.out.mono ?_; rintro e w1 ⟨rfl, hb1⟩)
  go_ret
  exact ⟨by rw [hc.out]; rfl, hb1⟩
 ·
  have e1 : ((k : Int) == 0) = false := beq_eq_false_iff_ne.2 (by omega)
  have hc' : Hid (checkOf s.data.toList = 0) := Lib.hid (by rw [hc.out, if_neg h0])
  clear hc h0
  go_enter Tryz.func50, Tryz.ntmps50
  go_wp2_with (go_at_call 78; refine HK.out.mono ?_; rintro e w1 ⟨rfl, hb1⟩)
  go_ret
  exact ⟨by rw [hc'.out]; rfl, hb1⟩
end Go.Proofs.YtpeneeddfgmjpaaGreatDoor.topic
