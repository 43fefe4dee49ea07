/-
  slices.Chunk over a list of ids, 16 in each piece: the iterator's contract.
-/
import Derived.Test.YtbfjljbllfjicaaMsct
import Derived.Test.YtbfjljbllfjicaaRfn
import Derived.Shelf.Abstract
import Derived.Shelf.RegionOpen
import Derived.TacticsInMore
import Derived.LoopNIn
import Derived.LoopIn
import Derived.Sort.CutIn
namespace Go.Proofs.Ytbfjljbllfjicaa.msg
open Go.RowKit Go.Shelf Go.Proofs.Ytbfjljbllfjicaa.mem Go.Proofs.Ytbfjljbllfjicaa.sha Go.Proofs.Ytbfjljbllfjicaa.ids
attribute [local go_sem] Oper.semAt_some

/-- how many ids the x-th piece has -/
def chE (N x : Nat) : Nat := min 16 (N - 16 * x)
def chV (b off N x : Nat) : Value := .slice (some ⟨b, off + 16 * x * 32, none⟩) (chE N x) (chE N x)
abbrev Ch (N : Nat) := {x : Nat // 16 * x < N}
/-- what the iterator reads between two rounds -/
def KpC (A B : Nat) (W W' : World) : Prop := W.heap.size ≤ W'.heap.size ∧ W'.heap[A]? = W.heap[A]? ∧ W'.heap[B]? = W.heap[B]?
theorem KpC.trans {A B : Nat} {X Y Z : World} (h : KpC A B X Y) (k : KpC A B Y Z) : KpC A B X Z := ⟨Nat.le_trans h.1 k.1, k.2.1.trans h.2.1, k.2.2.trans h.2.2⟩
theorem KpC.cellA {A B : Nat} {W W' : World} {i : Nat} (h : KpC A B W W') : W'.cell? ⟨A, i, none⟩ = W.cell? ⟨A, i, none⟩ := World.cell?_of_block (w := W) (a := ⟨A, i, none⟩) h.2.1
theorem KpC.cellB {A B : Nat} {W W' : World} {i : Nat} (h : KpC A B W W') : W'.cell? ⟨B, i, none⟩ = W.cell? ⟨B, i, none⟩ := World.cell?_of_block (w := W) (a := ⟨B, i, none⟩) h.2.2
set_option maxHeartbeats 4000000 in
set_option maxRecDepth 100000 in
theorem chunk1_in (n l BS BN b off N cap : Nat) (hN : N ≤ 1000) (hcap : N ≤ cap) (hcm : cap ≤ maxLen) (J Jx : List (Ch N) → World → Prop)
    (hY : ∀ pre x W, J pre W → pre.length < N → YieldAt Fence.wide n Try.prog l #[chV b off N x.1] W fun e W' =>
      (e = .returned (.bool true) ∧ J (pre ++ [x]) W' ∧ KpC BS BN W W') ∨ (e = .returned (.bool false) ∧ Jx (pre ++ [x]) W'))
    (hJd : ∀ s W, J s W → J s W.drew)
    (W : World) (hBS : W.cell? ⟨BS, 0, none⟩ = some (.slice (some ⟨b, off, none⟩) N cap)) (hBN : W.cell? ⟨BN, 0, none⟩ = some (.int .i64 16)) (h0 : J [] W) :
    CallsIn Fence.wide (n + 1) Try.prog 54 #[.func (.yield l) #[] #[], .pointer (some ⟨BS, 0, none⟩), .pointer (some ⟨BN, 0, none⟩)] W fun e W' => (∃ v, e = .returned v) ∧
      ((∃ ys : List (Ch N), ys.map (·.1) = List.range ((N + 15) / 16) ∧ J ys W') ∨ (∃ pre, Jx pre W')) := by
  refine callsIn_of_wp Try.func54 rfl trivial ?_ rfl
  simp only [Try.ntmps54, List.size_toArray, List.length_cons, List.length_nil, Nat.reduceAdd, Nat.reduceSub, Array.replicate_succ, Array.replicate_zero, List.push_toArray, List.append_toArray, List.nil_append, List.cons_append]
  gi_wp2
  gi_loopw [4] (fun i wr => ∃ (k : Nat) (pre : List (Ch N)), i = .int .i64 (16 * k : Nat) ∧ 16 * k < N + 16 ∧ pre.map (·.1) = List.range k ∧ J pre wr ∧ KpC BS BN W wr) (fun i _ => N + 16 - (intOf i).toNat)
  case atStart => exact ⟨0, [], rfl, by omega, rfl, h0, Nat.le_refl _, rfl, rfl⟩
  case round =>
    obtain ⟨k, pre, rfl, hk, hpre, hJs, hKp⟩ := hrel
    have c1 := hKp.cellA.trans hBS
    have c2 := hKp.cellB.trans hBN
    obtain ⟨q, hq⟩ : ∃ q, q = 16 * k := ⟨_, rfl⟩
    rw [← hq]
    have q0 : (0 : Int) ≤ (q : Int) := Int.natCast_nonneg _
    have n0 : (N : Int) ≤ 1000 := by omega
    have nc : (N : Int) ≤ (cap : Int) := by omega
    have hk' : q < N + 16 := by omega
    have qm : (q : Int) < 1016 := by omega
    have HQ := Lib.hid hq
    clear hq hk
    by_cases hlt : q < N
    · have qI : (q : Int) < (N : Int) := by omega
      gi_upto_region 3 with fail
      refine wpIn_wide.2 ?_
      go_region
      obtain ⟨e, he⟩ : ∃ e : Nat, e = chE N k := ⟨_, rfl⟩
      have heq : min (16 : Int) ((N - q : Nat) : Int) = (e : Int) := by rw [he, HQ.out]; unfold chE; omega
      rw [heq]
      have e0 : (0 : Int) ≤ (e : Int) := Int.natCast_nonneg _
      have e16 : (e : Int) ≤ 16 := by rw [← heq]; omega
      have e1 : (1 : Int) ≤ (e : Int) := by rw [← heq]; omega
      have qe : (q : Int) + (e : Int) ≤ (cap : Int) := by rw [← heq]; omega
      have hlen : pre.length = k := by rw [← List.length_map (f := fun x : Ch N => x.1), hpre, List.length_range]
      obtain ⟨fn, tmps, assign, body, hy, hR⟩ := hY pre ⟨k, by have := HQ.out; omega⟩ wr.drew (hJd _ _ hJs) (by have := HQ.out; omega)
      have hcv : chV b off N k = .slice (some ⟨b, off + q * 32, none⟩) e e := by unfold chV; rw [← he, ← HQ.out]
      simp only [hcv] at hy
      have HE := Lib.hid he
      have HR := Lib.hid hR
      have HLEN := Lib.hid hlen
      have HPRE := Lib.hid hpre
      have HKP := Lib.hid hKp
      clear heq he hR hY hJs hpre hlen hcv hKp hk'
      gi_wp2
      refine HR.out.mono ?_
      rintro e' W' (⟨rfl, hJ3, hk3⟩ | ⟨rfl, hJx3⟩)
      · have hk3 : KpC BS BN wr W' := hk3
        have d2 := hk3.cellB.trans c2
        have HJ3 := Lib.hid hJ3
        have HK3 := Lib.hid hk3
        clear hJ3 hk3
        gi_wp2
        go_roundw
        case rel => exact ⟨k + 1, _, by rw [HQ.out]; push_cast; congr 1, by have := HQ.out; omega, by rw [List.map_append, HPRE.out, List.range_succ]; rfl, HJ3.out, HKP.out.trans HK3.out⟩
        case measure => (simp [intOf]; try omega)
      · gi_wp2
        refine bodyPost_ret (results_none rfl _ _ _) rfl ?_
        exact ⟨⟨_, rfl⟩, .inr ⟨_, hJx3⟩⟩
    · have qI : (N : Int) ≤ (q : Int) := by omega
      gi_wp2
      go_end0
      exact ⟨⟨_, rfl⟩, .inl ⟨pre, by rw [hpre]; have := HQ.out; congr 1; omega, hJs⟩⟩
set_option maxHeartbeats 4000000 in
set_option maxRecDepth 100000 in
/-- of no ids: no round -/
theorem chunk0_in (n l BS BN cap : Nat) (ad : Option Addr) (J : World → Prop) (W : World) (hBS : W.cell? ⟨BS, 0, none⟩ = some (.slice ad 0 cap)) (h0 : J W) :
    CallsIn Fence.wide (n + 1) Try.prog 54 #[.func (.yield l) #[] #[], .pointer (some ⟨BS, 0, none⟩), .pointer (some ⟨BN, 0, none⟩)] W fun e W' => (∃ v, e = .returned v) ∧ J W' := by
  refine callsIn_of_wp Try.func54 rfl trivial ?_ rfl
  simp only [Try.ntmps54, List.size_toArray, List.length_cons, List.length_nil, Nat.reduceAdd, Nat.reduceSub, Array.replicate_succ, Array.replicate_zero, List.push_toArray, List.append_toArray, List.nil_append, List.cons_append]
  gi_wp2
  gi_loopw [4] (fun i wr => i = .int .i64 0 ∧ wr = W) (fun _ _ => 0)
  case atStart => exact ⟨rfl, rfl⟩
  case round =>
    obtain ⟨rfl, rfl⟩ := hrel
    gi_wp2
    go_end0
    exact ⟨⟨_, rfl⟩, h0⟩
set_option maxHeartbeats 4000000 in
set_option maxRecDepth 100000 in
/-- slices.Chunk: both are boxed; the function value captures the boxes -/
theorem chunk_any (ad : Option Addr) (n cap : Nat) (w : World) :
    Calls Try.prog 41 #[.slice ad n cap, .int .i64 16] w fun e w' => e = .returned (.func (.func 54) #[] #[.pointer (some ⟨w.heap.size, 0, none⟩), .pointer (some ⟨w.heap.size + 1, 0, none⟩)]) ∧ w' = (w.alloc (.cells #[.slice ad n cap] 22)).alloc (.cells #[.int .i64 16] 3) := by
  go_enter Try.func41, Try.ntmps41
  go_wp2
  go_ret
  exact ⟨rfl, rfl⟩
/-- what slices.Chunk hands back gives the pieces, in their order -/
theorem chunk_stops (n BS BN : Nat) (L : List (List UInt8)) (ad : Option Addr) (cap : Nat) (w0 w : World) (hL : RdV w0 (.slice ad L.length cap) L) (hm : L.length ≤ 1000) (hBSl : BS < w.heap.size) (hBNl : BN < w.heap.size)
    (hBS : w.cell? ⟨BS, 0, none⟩ = some (.slice ad L.length cap)) (hBN : w.cell? ⟨BN, 0, none⟩ = some (.int .i64 16)) :
    SeqStopsK Fence.wide (n + 1) Try.prog 54 #[.pointer (some ⟨BS, 0, none⟩), .pointer (some ⟨BN, 0, none⟩)] (fun x : Ch L.length => #[chV ((ad.getD ⟨0, 0, none⟩).block) ((ad.getD ⟨0, 0, none⟩).off) L.length x.1]) (KpC BS BN) (fun ys => ys.map (·.1) = List.range ((L.length + 15) / 16)) (fun _ => True) L.length w := fun l J Jx W hW hJ _ hY h0 => by
  have c1 := (hW.cell (p := ⟨BS, 0, none⟩) hBSl).trans hBS
  have c2 := (hW.cell (p := ⟨BN, 0, none⟩) hBNl).trans hBN
  by_cases hz : L.length = 0
  · rw [hz] at c1
    refine (chunk0_in n l BS BN cap ad (J []) W c1 h0).mono ?_
    rintro e W' ⟨he, hj⟩
    exact ⟨he, .inl ⟨[], by rw [hz]; rfl, hj⟩⟩
  · obtain ⟨b, off, rfl, -, -, -⟩ := hL.load (i := 0) (by omega)
    obtain ⟨h1, h2, ad', cap', hv, h3, h4, -, -, -⟩ := hL
    cases hv
    refine (chunk1_in n l BS BN b off L.length cap hm h3 h4 J Jx hY (fun s W hs => hJ s W _ none hs ⟨rfl, rfl, rfl, Nat.le_refl _, fun _ _ _ => rfl⟩ (fun r e => by cases e)) W c1 c2 h0).mono ?_
    rintro e W' ⟨he, ⟨ys, h, hj⟩ | ⟨pre, hj⟩⟩
    · exact ⟨he, .inl ⟨ys, h, hj⟩⟩
    · exact ⟨he, .inr ⟨pre, trivial, hj⟩⟩
end Go.Proofs.Ytbfjljbllfjicaa.msg
