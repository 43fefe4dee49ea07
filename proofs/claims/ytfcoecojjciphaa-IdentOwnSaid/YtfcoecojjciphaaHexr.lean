/-
  petrelref06.Text, half, Parse.
-/
import Derived.Test.YtfcoecojjciphaaMema
import Derived.Test.YtfcoecojjciphaaIdsp
import Derived.Test.YtfcoecojjciphaaStrx
import Derived.Deep.RegionLaw
import Derived.Deep.CutRange
import Derived.Deep.CutBlock
namespace Go.Proofs.Ytfcoecojjciphaa.ids
open Go.RowKit Go.Proofs.Ytfcoecojjciphaa.mem Go.Proofs.Ytfcoecojjciphaa.sha Go.Proofs.Ytfcoecojjciphaa.strx

def hexL : List UInt8 := [48, 49, 50, 51, 52, 53, 54, 55, 56, 57, 97, 98, 99, 100, 101, 102]
def hexB (n : Nat) : UInt8 := hexL.getD n 0
def twoB (b : UInt8) : List UInt8 := [hexB (b.toNat / 16), hexB (b.toNat % 16)]
def textL : Id → List UInt8
  | [] => []
  | b :: x => twoB b ++ textL x
def halfI (c : UInt8) : Int := if 48 ≤ B c ∧ B c ≤ 57 then B c - 48 else if 97 ≤ B c ∧ B c ≤ 102 then B c - 87 else -1
theorem halfI_range (c : UInt8) : -1 ≤ halfI c ∧ halfI c ≤ 15 := by
  unfold halfI
  repeat' split
  all_goals omega
set_option maxRecDepth 100000 in
theorem rhalf_any (c : UInt8) (w : World) : Calls Try.prog 32 #[.int .u8 (B c)] w fun e w' => e = .returned (.int .i64 (halfI c)) ∧ w = w' := by
  have h0 := B_nonneg c
  have h1 := B_lt c
  by_cases a1 : 48 ≤ B c ∧ B c ≤ 57
  · have e : halfI c = B c - 48 := by unfold halfI; rw [if_pos a1]
    rw [e]
    obtain ⟨a2, a3⟩ := a1
    clear e
    go_enter Try.func32, Try.ntmps32
    go_wp2_with fail
    go_ret
    exact ⟨rfl, rfl⟩
  · by_cases b1 : 97 ≤ B c ∧ B c ≤ 102
    · have e : halfI c = B c - 87 := by unfold halfI; rw [if_neg a1, if_pos b1]
      rw [e]
      obtain ⟨a2, a3⟩ := b1
      have a4 : 57 < B c := by omega
      clear e a1
      go_enter Try.func32, Try.ntmps32
      go_wp2_with fail
      go_ret
      exact ⟨rfl, rfl⟩
    · have e : halfI c = -1 := by unfold halfI; rw [if_neg a1, if_neg b1]
      rw [e]
      clear e
      by_cases c1 : B c < 48
      · have c2 : B c < 97 := by omega
        clear a1 b1
        go_enter Try.func32, Try.ntmps32
        go_wp2_with fail
        go_ret
        exact ⟨rfl, rfl⟩
      · have c2 : 57 < B c := by omega
        by_cases c3 : B c < 97
        · clear a1 b1 c1
          go_enter Try.func32, Try.ntmps32
          go_wp2_with fail
          go_ret
          exact ⟨rfl, rfl⟩
        · have c4 : 102 < B c := by omega
          clear a1 b1 c1 c3
          go_enter Try.func32, Try.ntmps32
          go_wp2_with fail
          go_ret
          exact ⟨rfl, rfl⟩

theorem step_append_run {P : Program} {ops : Array Oper} {o : Oper} {a : Act} {w : World} {K : Act → World → Prop} {Q : Exit → Act → World → Prop} {E : Prop}
    (hg : o.guard = none) (s x : Operand) (t : TypeId) (hop : o.op = Op.call { callee := Callee.builtin Builtin.append, args := #[s, x], argTypes := #[t, t] })
    (vs vx v' : Value) (w' : World) (hs : a.eval s = vs) (hx : a.eval x = vx) (hr : (Builtin.append_ #[t, t] o.type #[vs, vx]).run P w = .ok v' w')
    (hK : K (a.put o.dst v') w') : if Region.wanted o (yielded ops a.tmps) = true then Oper.wp P o a w K Q else E := by
  have hw : Region.wanted o (yielded ops a.tmps) = true := by simp [Region.wanted, hg]
  rw [if_pos hw]
  unfold Oper.wp
  simp [execOp, hop, resolve, invoke, builtin, hs, hx, hr, Result.andThen]
  exact hK
/-- 'append(v, a, b)', behind a draw -/
theorem run_append_two (ty : TypeId) (F : Nat → Prop) (w : World) (v : Value) (n : Nat) (xs : List Value) (hown : Owns w F v n xs) (a b : Int) (hlen : n + 2 ≤ 140737488355328) (hn : New F w) :
    ∃ v' w', (Builtin.append_ #[41, 41] ty #[v, .slice (some ⟨w.heap.size, 0, none⟩) 2 2]).run Try.prog (w.alloc (.cells #[.int .u8 a, .int .u8 b] 5)) = .ok v' w' ∧ Owns w' F v' (n + 2) (xs ++ [.int .u8 a, .int .u8 b]) ∧ Turn F w w' := by
  obtain ⟨i0, hi, hz0, hz1, hz2⟩ := info_parts info5
  obtain ⟨v', w', hr, ho', hg, _, hat⟩ := run_append_own_at (P := Try.prog) (w.alloc (.cells #[.int .u8 a, .int .u8 b] 5)) 0 41 ty 5 i0 (.int .u8 0) 1 1 Try.underlying41 hi hz0 hz1 hz2 rfl (by decide) v n xs (hown.1.alloc _) ⟨w.heap.size, 0, none⟩ 2 2 [.int .u8 a, .int .u8 b] rfl
    (new_cells w 5 [.int .u8 a, .int .u8 b]) (one2 a b) (by unfold maxLen; omega) (by omega) (Nat.zero_le _)
  refine ⟨v', w', hr, ⟨ho', fun c hc => ?_⟩, ((Turn.refl F w).alloc hn _).trans (Turn.grown hg hown.2 (hn.alloc _))⟩
  rcases hat with e | e <;> rw [e] at hc
  · exact hown.2 c hc
  · injection hc with hc
    subst hc
    exact hn _ (by simp)
theorem str_owned {w : World} {F : Nat → Prop} {v : Value} {n : Nat} {l : List UInt8} (h : Owns w F v n (bv l)) (hl : l.length = n) : (convert 41 9 v).run Try.prog w = .ok (.string ⟨l.toArray⟩) w := by
  subst hl
  exact Owns.string h
theorem textL_take (x : Id) (k : Nat) (h : k < x.length) : textL (x.take (k + 1)) = textL (x.take k) ++ twoB (x.getD k 0) := by
  have ha : ∀ a b : Id, textL (a ++ b) = textL a ++ textL b := by
    intro a b
    induction a with
    | nil => rfl
    | cons c a ih => rw [List.cons_append, textL, textL, ih, List.append_assoc]
  rw [List.take_succ_eq_append_getElem h, ha, List.getD_eq_getElem?_getD, List.getElem?_eq_getElem h, textL, textL, List.append_nil]
  rfl
theorem textL_len : ∀ x : Id, (textL x).length = 2 * x.length
  | [] => rfl
  | b :: x => by rw [textL, List.length_append, textL_len x, List.length_cons]; show 2 + _ = _; omega

set_option maxHeartbeats 2000000 in
set_option maxRecDepth 100000 in
theorem rtext_any (x : Id) (w : World) (hx : x.length = 32) : Calls Try.prog 13 #[.agg (bv x).toArray] w fun e w' => e = .returned (.string (bt (textL x))) ∧ Below w.heap.size w w' := by
  obtain ⟨w1, hw1⟩ : ∃ u, u = w.alloc (.cells (bv x).toArray 23) := ⟨_, rfl⟩
  obtain ⟨S, hS⟩ : ∃ S, S = w.heap.size := ⟨_, rfl⟩
  have hX : Blk w1 S 23 (bv x).toArray := by rw [hw1, hS]; exact Blk.new w _ _
  have hB : Below w.heap.size w w1 := by rw [hw1]; exact (Below.refl _ _).alloc (Nat.le_refl _) _
  have HX1 := Lib.hid hX
  have HB1 := Lib.hid hB
  have HSS := Lib.hid hS
  have HW := Lib.hid hw1
  clear hX hB hw1 hS
  go_enter Try.func13, Try.ntmps13
  go_upto_region 3 with fail
  refine wp_at HW.out.symm ?_
  rw [← HSS.out]
  clear HW
  obtain ⟨HX, hHX⟩ : ∃ s, s = bt hexL := ⟨_, rfl⟩
  have HHX := Lib.hid hHX
  rw [show (⟨#[48, 49, 50, 51, 52, 53, 54, 55, 56, 57, 97, 98, 99, 100, 101, 102]⟩ : ByteArray) = HX from hHX.symm]
  clear hHX
  go_wp2_with fail
  go_loopw [4, 5] (fun vo i wr => ∃ k : Nat, k ≤ 32 ∧ i = .int .i64 k ∧ Owns wr (S < ·) vo (2 * k) (bv (textL (x.take k))) ∧ Blk wr S 23 (bv x).toArray ∧ Below w.heap.size w wr) (fun _ i _ => 32 - (intOf i).toNat)
  case atStart => exact ⟨0, by decide, rfl, Owns.nil _ _, HX1.out, HB1.out⟩
  case round =>
    clear HX1 HB1
    obtain ⟨k, hk, rfl, hO, hX, hB⟩ := hrel
    obtain ⟨ad, m, cc, rfl⟩ := hO.form
    have HO := Lib.hid hO
    have HXX := Lib.hid hX
    have HB := Lib.hid hB
    have k0 : (0 : Int) ≤ (k : Int) := Int.natCast_nonneg _
    by_cases hlt : k < 32
    · have k1 : (k : Int) < 32 := by omega
      have hc : wr.cell? ⟨S, k, none⟩ = some (.int .u8 (B (x.getD k 0))) := by
        rw [hX.cell, List.getElem?_toArray]
        exact bv_get _ _ (by rw [hx]; exact hlt)
      have HT := Lib.hid (textL_take x k (by rw [hx]; exact hlt))
      obtain ⟨y, hy⟩ : ∃ y, y = x.getD k 0 := ⟨_, rfl⟩
      rw [← hy] at hc HT
      have hy1 := B_nonneg y
      have hy2 := B_lt y
      obtain ⟨q, hq⟩ : ∃ q, q = y.toNat / 16 := ⟨_, rfl⟩
      obtain ⟨r, hr⟩ : ∃ r, r = y.toNat % 16 := ⟨_, rfl⟩
      have hyn := y.toNat_lt
      have hq16 : q < 16 := by omega
      have hr16 : r < 16 := by omega
      have hqI : B y / 16 = (q : Int) := by unfold B; omega
      have hrI : B y % 16 = (r : Int) := by unfold B; omega
      have w1 : IntKind.i64.wrap (B y) = B y := by rw [IntKind.wrap_i64]; omega
      have w2 : (B y).tdiv 16 = (q : Int) := by rw [Int.tdiv_eq_ediv_of_nonneg hy1]; exact hqI
      have w3 : (B y).tmod 16 = (r : Int) := by rw [Int.tmod_eq_emod_of_nonneg hy1]; exact hrI
      have w4 : IntKind.i64.wrap (q : Int) = (q : Int) := by rw [IntKind.wrap_i64]; omega
      have w5 : IntKind.i64.wrap (r : Int) = (r : Int) := by rw [IntKind.wrap_i64]; omega
      have q0 : (0 : Int) ≤ (q : Int) := Int.natCast_nonneg _
      have q1 : (q : Int) < 16 := by omega
      have r0 : (0 : Int) ≤ (r : Int) := Int.natCast_nonneg _
      have r1 : (r : Int) < 16 := by omega
      have hix : ∀ u : World, (Instr.index 9 (.string HX) (.int .i64 (q : Int))).run Try.prog u = .ok (.int .u8 (B (hexB q))) u := fun u => by rw [HHX.out]; exact run_index_str (bt hexL) q hq16 u
      have hiy : ∀ u : World, (Instr.index 9 (.string HX) (.int .i64 (r : Int))).run Try.prog u = .ok (.int .u8 (B (hexB r))) u := fun u => by rw [HHX.out]; exact run_index_str (bt hexL) r hr16 u
      have H2 : Hid (twoB y = [hexB q, hexB r]) := Lib.hid (by rw [hq, hr]; rfl)
      obtain ⟨v', w', hrn, ho', ht'⟩ := run_append_two 41 (S < ·) wr.drew _ (2 * k) _ (show Owns wr.drew _ _ _ _ from HO.out) (B (hexB q)) (B (hexB r)) (by omega) (fun j hj => Nat.lt_of_lt_of_le hX.lt hj)
      have HOO : Hid (Owns w' (S < ·) v' (2 * (k + 1)) (bv (textL (x.take k) ++ [hexB q, hexB r]))) := Lib.hid (by
        unfold bv
        rw [List.map_append]
        exact ho')
      have HT' := Lib.hid ht'
      have hr2 : (Builtin.append_ #[41, 41] 41 #[.slice ad m cc, .slice (some ⟨wr.heap.size, 0, none⟩) 2 2]).run Try.prog (wr.alloc (.cells #[.int .u8 (B (hexB q)), .int .u8 (B (hexB r))] 5)).drew = .ok v' w' := hrn
      clear hrn ho' ht' hO hX hB hy hq hr
      have HR := Lib.hid hr2
      clear hr2
      go_wp2_with fail
      go_region_law (refine step_append_run rfl (.tmp 10) (.tmp 25) 41 rfl _ _ v' w' rfl rfl HR.out ?_)
      all_goals
        go_simp
        go_wp2_with fail
        go_roundw
        case rel => exact ⟨k + 1, hlt, by push_cast; rfl, by rw [HT.out, H2.out]; exact HOO.out, HXX.out.turn HT'.out.undrew (Nat.lt_irrefl S), HB.out.trans (HT'.out.undrew.below fun j hj => by have := HSS.out; have : S < j := hj; omega)⟩
        case measure => simp [intOf]; omega
    · obtain rfl : k = 32 := by omega
      have ht : x.take 32 = x := List.take_of_length_le (by rw [hx]; exact Nat.le_refl _)
      have hst : (convert 41 9 (.slice ad m cc)).run Try.prog wr = .ok (.string (bt (textL x))) wr := by
        rw [ht] at hO
        exact str_owned hO (by rw [textL_len, hx])
      clear hO hX hB hlt ht
      go_wp2_with fail
      go_ret
      exact ⟨rfl, HB.out⟩
end Go.Proofs.Ytfcoecojjciphaa.ids
