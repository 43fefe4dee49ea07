/-
  petrelref14: has, in, Most.
  Texts: a byte of one, a piece of one.
-/
import Derived.Test.YtbhkegdohiekfaaDoorEnm
import Derived.Deep.RegionWith
import Derived.Deep.CutRange
import Derived.Deep.CutBlock
import Derived.Test.YtbhkegdohiekfaaDoorSha
import Derived.Laws.IdiomStrings
namespace Go.Proofs.YtbhkegdohiekfaaDoor.ent
open Go.RowKit Go.Proofs.YtbhkegdohiekfaaDoor.mem Go.Proofs.YtbhkegdohiekfaaDoor.sha Go.Proofs.YtbhkegdohiekfaaDoor.ids
open Go.Proofs.YtbhkegdohiekfaaDoor.opn (b1 b2 b4 num txt idl byte rd rdN rdT rdI rdS rdL St Reads Stays endE zid mkId)

/-- the letters of what a kind has -/
def hasL (k : Int) : List UInt8 := if kindE k = 1 then [66] else if kindE k = 2 then [67] else if kindE k = 3 then [84] else if kindE k = 4 then [84, 66] else []
def hasB (k : Int) : ByteArray := ⟨(hasL k).toArray⟩
theorem has_any (k : Int) (w : World) : Calls Tryd.prog 25 #[.int .i64 k] w fun e w' => e = .returned (.string (hasB k)) ∧ w = w' := by
  by_cases h0 : 1 ≤ k ∧ k ≤ 7
  · rcases (show k = 1 ∨ k = 2 ∨ k = 3 ∨ k = 4 ∨ k = 5 ∨ k = 6 ∨ k = 7 by omega) with rfl | rfl | rfl | rfl | rfl | rfl | rfl
    all_goals
      go_enter Tryd.func25, Tryd.ntmps25
      go_wp2
      go_ret
      exact ⟨rfl, rfl⟩
  have b1 : (k == 1) = false := by simp; omega
  have b2 : (k == 2) = false := by simp; omega
  have b3 : (k == 3) = false := by simp; omega
  have b4 : (k == 4) = false := by simp; omega
  have b5 : (k == 5) = false := by simp; omega
  have b6 : (k == 6) = false := by simp; omega
  have b7 : (k == 7) = false := by simp; omega
  have e : hasB k = ⟨#[]⟩ := by
    have hk : kindE k = 0 := by
      rcases kindE_cases k with ⟨_, h⟩ | ⟨_, h⟩ | ⟨_, h⟩ | ⟨_, h⟩ | ⟨h, _⟩ <;> omega
    unfold hasB hasL
    rw [hk]
    rfl
  have HE := Lib.hid e
  clear e h0
  go_enter Tryd.func25, Tryd.ntmps25
  go_wp2
  go_ret
  rw [HE.out]
  exact ⟨rfl, rfl⟩
theorem most_any (k : Int) (w : World) : Calls Tryd.prog 31 #[.int .i64 k] w fun e w' => e = .returned (.int .i64 (mostE k)) ∧ w = w' := by
  by_cases h3 : k = 3
  · subst h3
    go_enter Tryd.func31, Tryd.ntmps31
    go_wp2
    go_ret
    exact ⟨rfl, rfl⟩
  by_cases h7 : k = 7
  · subst h7
    go_enter Tryd.func31, Tryd.ntmps31
    go_wp2
    go_ret
    exact ⟨rfl, rfl⟩
  have b3 : (k == 3) = false := beq_eq_false_iff_ne.2 h3
  have b7 : (k == 7) = false := beq_eq_false_iff_ne.2 h7
  have HE : Hid (mostE k = 256) := Lib.hid (by unfold mostE; rw [if_neg h3, if_neg h7])
  clear h3 h7
  go_enter Tryd.func31, Tryd.ntmps31
  go_wp2
  go_ret
  rw [HE.out]
  exact ⟨rfl, rfl⟩
theorem contains_step (s : ByteArray) (c : UInt8) (k : Nat) (h : k < s.size) : (s.data.toList.take (k + 1)).contains c = ((s.data.toList.take k).contains c || c == s[k]) := by
  rw [oct.take_snoc s k h, List.contains_eq_mem, List.contains_eq_mem]
  simp [Bool.beq_eq_decide_eq]
theorem B_eq (a b : UInt8) : (B a == B b) = (b == a) := by
  by_cases h : a = b
  · subst h; simp
  · have h2 : ¬ B a = B b := fun e => h (UInt8.toNat_inj.1 (by unfold B at e; omega))
    have h3 : ¬ b = a := fun e => h e.symm
    rw [beq_eq_false_iff_ne.2 h2, beq_eq_false_iff_ne.2 h3]

theorem in_any (s : ByteArray) (c : UInt8) (w : World) (hs : s.size ≤ 549755813888000) : Calls Tryd.prog 26 #[.string s, .int .u8 (B c)] w fun e w' => e = .returned (.bool (s.data.toList.contains c)) ∧ w = w' := by
  go_enter Tryd.func26, Tryd.ntmps26
  go_wp2_with fail
  go_loopw [5] (fun i wr => ∃ k : Nat, k ≤ s.size ∧ i = .int .i64 k ∧ (s.data.toList.take k).contains c = false ∧ wr = w) (fun i _ => s.size - (intOf i).toNat)
  case atStart => exact ⟨0, Nat.zero_le _, rfl, rfl, rfl⟩
  case round =>
    obtain ⟨k, hk, rfl, hc, hwr⟩ := hrel
    have HW := Lib.hid hwr
    have k0 : (0 : Int) ≤ (k : Int) := Int.natCast_nonneg _
    by_cases hlt : k < s.size
    · have kI : (k : Int) < (s.size : Int) := by omega
      have hst := contains_step s c k hlt
      rw [hc, Bool.false_or] at hst
      have hx : (((s[k].toNat : Nat) : Int) == B c) = (c == s[k]) := B_eq _ _
      by_cases h1 : (c == s[k]) = true
      · rw [h1] at hst hx
        have HC : Hid (s.data.toList.contains c = true) := Lib.hid (by
          have hm := List.contains_iff_mem.1 hst
          exact List.contains_iff_mem.2 (List.mem_of_mem_take hm))
        clear hst hc hwr h1
        go_wp2_with fail
        go_ret
        rw [HC.out]
        exact ⟨rfl, HW.out.symm⟩
      · have h1' : (c == s[k]) = false := by simpa using h1
        rw [h1'] at hst hx
        have HC := Lib.hid hst
        clear hst hc hwr h1 h1'
        go_wp2_with fail
        go_roundw
        case rel => exact ⟨k + 1, by omega, by go_num, HC.out, HW.out⟩
        case measure => simp [intOf]; omega
    · have e : s.data.toList.take k = s.data.toList := List.take_of_length_le (by rw [Array.length_toList]; show s.size ≤ k; omega)
      rw [e] at hc
      have HC := Lib.hid hc
      clear hc hwr e
      go_wp2_with fail
      go_ret
      rw [HC.out]
      exact ⟨rfl, HW.out.symm⟩

theorem in_lit (p : ByteArray) (c : UInt8) (n : Int) (hn : B c = n) (b : Bool) (hb : p.data.toList.contains c = b) (hs : p.size ≤ 10) (u : World) :
    Calls Tryd.prog 26 #[.string p, .int .u8 n] u fun e w' => e = .returned (.bool b) ∧ u = w' := by
  have := in_any p c u (by omega)
  rw [hn, hb] at this
  exact this
end Go.Proofs.YtbhkegdohiekfaaDoor.ent

namespace Go.Proofs.YtbhkegdohiekfaaDoor.strx
open Go.RowKit Go.Proofs.YtbhkegdohiekfaaDoor.mem Go.Proofs.YtbhkegdohiekfaaDoor.sha

theorem size_list (s : ByteArray) : s.size = s.data.toList.length := Array.length_toList.symm
theorem run_index_str (s : ByteArray) (k : Nat) (h : k < s.size) (w : World) : (Instr.index 9 (.string s) (.int .i64 (k : Int))).run Tryd.prog w = .ok (.int .u8 (B (s.data.toList.getD k 0))) w := by
  have hs : s[k]? = some (s.data.toList.getD k 0) := by
    rw [List.getD_eq_getElem?_getD, List.getElem?_eq_getElem (by rw [← size_list]; exact h)]
    simp [getElem?_pos s k h]
    rfl
  have h0 : (0 : Int) ≤ (k : Int) := Int.natCast_nonneg _
  simp [Instr.index, asIntOf, run_underlying Tryd.underlying9, hs]
  rfl
/-- where the place is another expression -/
theorem run_index_int (s : ByteArray) (i : Int) (k : Nat) (hi : i = (k : Int)) (h : k < s.size) (w : World) : (Instr.index 9 (.string s) (.int .i64 i)).run Tryd.prog w = .ok (.int .u8 (B (s.data.toList.getD k 0))) w := by
  subst hi; exact run_index_str s k h w
/-- a text of bytes -/
def bt (l : List UInt8) : ByteArray := ⟨l.toArray⟩
theorem bt_list (l : List UInt8) : (bt l).data.toList = l := rfl
theorem bt_of (s : ByteArray) : bt s.data.toList = s := rfl
theorem bt_size (l : List UInt8) : (bt l).size = l.length := by rw [size_list]; rfl
theorem bt_append (l m : List UInt8) : bt l ++ bt m = bt (l ++ m) := by
  apply ByteArray.ext
  rw [ByteArray.data_append]
  simp [bt]
theorem ext_list (s : ByteArray) (m : Nat) : (s.extract m s.size).data.toList = s.data.toList.drop m := by
  rw [ByteArray.data_extract, Array.toList_extract, List.extract_eq_take_drop, List.take_of_length_le]
  rw [List.length_drop, ← size_list]
  exact Nat.le_refl _
theorem ext_bt (s : ByteArray) (m : Nat) : s.extract m s.size = bt (s.data.toList.drop m) := by rw [← ext_list, bt_of]
/-- a piece of a text, from its byte m on -/
theorem run_slice_str (s : ByteArray) (m : Nat) (h : m ≤ s.size) (w : World) : (Instr.sliceAt 9 (.string s) (some (.int .i64 (m : Int))) none none).run Tryd.prog w = .ok (.string (bt (s.data.toList.drop m))) w := by
  rw [← ext_bt]
  have h0 : (0 : Int) ≤ (m : Int) := Int.natCast_nonneg _
  have h1 : (m : Int) ≤ (s.size : Int) := by omega
  simp only [Instr.sliceAt, Instr.slice, Instr.sliceBounds, Instr.sliceBound, asIntOf, sizeOf, Sem.run_bind, Result.andThen_ok, run_underlying Tryd.underlying9]
  simp [h]
theorem to_bt (s : ByteArray) (m : Nat) : s.extract 0 m = bt (s.data.toList.take m) := by
  apply ByteArray.ext
  rw [ByteArray.data_extract]
  apply Array.ext'
  rw [Array.toList_extract, List.extract_eq_take_drop, List.drop_zero, Nat.sub_zero]
  rfl
/-- a piece of a text, up to its byte m -/
theorem run_slice_to (s : ByteArray) (m : Nat) (h : m ≤ s.size) (w : World) : (Instr.sliceAt 9 (.string s) none (some (.int .i64 (m : Int))) none).run Tryd.prog w = .ok (.string (bt (s.data.toList.take m))) w := by
  rw [← to_bt]
  have h0 : (0 : Int) ≤ (m : Int) := Int.natCast_nonneg _
  have h1 : (m : Int) ≤ (s.size : Int) := by omega
  simp only [Instr.sliceAt, Instr.slice, Instr.sliceBounds, Instr.sliceBound, asIntOf, sizeOf, Sem.run_bind, Result.andThen_ok, run_underlying Tryd.underlying9]
  simp [h]
end Go.Proofs.YtbhkegdohiekfaaDoor.strx
