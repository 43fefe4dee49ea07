/-
  Cells stored at once into a row.
  Sets of ids by plain functions (petrelref06).
  An id's first bytes, and zeros; an id's array byte by byte.
-/
import Derived.Test.YtbhkegdohiekfaaDoorIdst
import Derived.Test.YtbhkegdohiekfaaDoorIda
import Derived.Test.YtbhkegdohiekfaaDoorOpp
import Derived.Test.YtbhkegdohiekfaaDoorSha
namespace Go.Proofs.YtbhkegdohiekfaaDoor.ids
open Go.RowKit Go.Proofs.YtbhkegdohiekfaaDoor.mem Go.Proofs.YtbhkegdohiekfaaDoor.sha

theorem run_store_cells {w : World} {g off : Nat} {cur : Array Value} {t : TypeId} (hg : w.heap[g]? = some (.cells cur t (0, 0))) (ty : TypeId) (cs : List Value) (hi : (Tryd.prog.info? ty).map (·.size) = some cs.length) (h1 : ∀ u ∈ cs, u.oneCell' = true) (hfit : off + cs.length ≤ cur.size) :
    (Instr.storeAt ty (.pointer (some ⟨g, off, none⟩)) (.agg cs.toArray)).run Tryd.prog w = .ok () (w.setRow g (ids.splice cur off cs)) := by
  have hst := run_storeCells_at Tryd.prog g off t cs 0 cur w hg (by omega) h1
  cases hq : Tryd.prog.info? ty with
  | none => simp [hq] at hi
  | some i =>
    have hs : i.size = cs.length := by simpa [hq] using hi
    simp only [Instr.storeAt, Instr.sureAddr, storeVar, sizeOf, typeInfo, Value.cells, Sem.run_bind, Sem.run_pure, Result.andThen_ok]
    simp [hq, hs, hst, ids.splice]
theorem splice_all (cur : Array Value) (cs : List Value) (h : cs.length = cur.size) : ids.splice cur 0 cs = cs.toArray := by
  have hl : cur.toList.length = cur.size := Array.length_toList
  unfold ids.splice
  rw [List.take_zero, List.nil_append, Nat.zero_add, List.drop_of_length_le (by omega), List.append_nil]
theorem below_row' {B : Nat} {w0 w : World} {g : Nat} (hb : Below B w0 w) (hg : B ≤ g) (cs : Array Value) : Below B w0 (w.setRow g cs) := hb.trans ((turn_row w g cs).below fun j hj => by rw [hj]; exact hg)
end Go.Proofs.YtbhkegdohiekfaaDoor.ids

namespace Go.Proofs.YtbhkegdohiekfaaDoor.ids
open Go.RowKit Go.Proofs.YtbhkegdohiekfaaDoor.mem Go.Proofs.YtbhkegdohiekfaaDoor.sha

abbrev Id := List UInt8
def cmpL : Id → Id → Int
  | [], [] => 0
  | [], _ :: _ => -1
  | _ :: _, [] => 1
  | a :: x, b :: y => if a.toNat < b.toNat then -1 else if b.toNat < a.toNat then 1 else cmpL x y
def withL (L : List Id) (x : Id) : List Id := if L.contains x then L else L.takeWhile (fun y => decide (cmpL y x < 0)) ++ x :: L.dropWhile (fun y => decide (cmpL y x < 0))
def setL (L : List Id) : List Id := L.foldl withL []
def neX (x y : Id) : Bool := y != x
def woutL (L : List Id) (x : Id) : List Id := L.filter (neX x)
def notIn (M : List Id) (x : Id) : Bool := !M.contains x
def lessL (L M : List Id) : List Id := (setL L).filter (notIn M)
def bothL (L M : List Id) : List Id := M.foldl withL (setL L)

theorem withL_ok {L : List Id} {x : Id} (h : okIds L) (hx : x.length = 32) : okIds (withL L x) := by
  unfold withL
  split
  · exact h
  · intro y hy
    rcases List.mem_append.1 hy with hy | hy
    · exact h y ((List.takeWhile_sublist _).mem hy)
    · rcases List.mem_cons.1 hy with rfl | hy
      · exact hx
      · exact h y ((List.dropWhile_sublist _).mem hy)
theorem foldl_with_ok : ∀ {M L : List Id}, okIds L → okIds M → okIds (M.foldl withL L)
  | [], _, h, _ => h
  | x :: M, L, h, hM => foldl_with_ok (M := M) (L := withL L x) (withL_ok h (hM x List.mem_cons_self)) (fun y hy => hM y (List.mem_cons_of_mem _ hy))
theorem setL_ok {L : List Id} (h : okIds L) : okIds (setL L) := foldl_with_ok okIds.nil h
theorem withL_len (L : List Id) (x : Id) : (withL L x).length ≤ L.length + 1 := by
  unfold withL
  split
  · omega
  · rw [List.length_append, List.length_cons]
    have := congrArg List.length (List.takeWhile_append_dropWhile (p := fun y => decide (cmpL y x < 0)) (l := L))
    rw [List.length_append] at this
    omega
theorem foldl_with_len : ∀ (M L : List Id), (M.foldl withL L).length ≤ L.length + M.length
  | [], L => Nat.le_refl _
  | x :: M, L => by
    have h1 := foldl_with_len M (withL L x)
    have h2 := withL_len L x
    rw [List.foldl_cons, List.length_cons]
    omega
theorem setL_len (L : List Id) : (setL L).length ≤ L.length := by have := foldl_with_len L []; rw [List.length_nil, Nat.zero_add] at this; exact this

/-! The order. -/
theorem cmpL_self : ∀ x : Id, cmpL x x = 0
  | [] => rfl
  | a :: x => by rw [cmpL, if_neg (Nat.lt_irrefl _), if_neg (Nat.lt_irrefl _), cmpL_self x]
theorem cmpL_zero : ∀ x y : Id, cmpL x y = 0 → x = y
  | [], [], _ => rfl
  | [], _ :: _, h => by cases h
  | _ :: _, [], h => by cases h
  | a :: x, b :: y, h => by
    rw [cmpL] at h
    split at h
    · cases h
    · split at h
      · cases h
      · rw [cmpL_zero x y h, UInt8.toNat_inj.1 (show a.toNat = b.toNat by omega)]
theorem cmpL_neg : ∀ x y : Id, cmpL y x = - cmpL x y
  | [], [] => rfl
  | [], _ :: _ => rfl
  | _ :: _, [] => rfl
  | a :: x, b :: y => by
    rw [cmpL, cmpL, cmpL_neg x y]
    repeat' split
    all_goals omega
theorem cmpL_range : ∀ x y : Id, cmpL x y = -1 ∨ cmpL x y = 0 ∨ cmpL x y = 1
  | [], [] => .inr (.inl rfl)
  | [], _ :: _ => .inl rfl
  | _ :: _, [] => .inr (.inr rfl)
  | a :: x, b :: y => by
    rw [cmpL]
    repeat' split
    · exact .inl rfl
    · exact .inr (.inr rfl)
    · exact cmpL_range x y
theorem cmpL_trans : ∀ x y z : Id, cmpL x y < 0 → cmpL y z < 0 → cmpL x z < 0
  | [], [], _, h, _ => by simp [cmpL] at h
  | [], _ :: _, [], _, h => by simp [cmpL] at h
  | [], _ :: _, _ :: _, _, _ => by simp [cmpL]
  | _ :: _, [], _, h, _ => by simp [cmpL] at h
  | _ :: _, _ :: _, [], _, h => by simp [cmpL] at h
  | a :: x, b :: y, c :: z, h, k => by
    have ih := cmpL_trans x y z
    rw [cmpL] at h k ⊢
    repeat' split at h
    all_goals repeat' split at k
    all_goals repeat' split
    all_goals first
      | omega
      | exact ih h k
theorem cmpL_step (x y : Id) (k : Nat) (hx : k < x.length) (hy : k < y.length) : cmpL (x.drop k) (y.drop k) = if (x.getD k 0).toNat < (y.getD k 0).toNat then -1 else if (y.getD k 0).toNat < (x.getD k 0).toNat then 1 else cmpL (x.drop (k + 1)) (y.drop (k + 1)) := by
  rw [List.drop_eq_getElem_cons hx, List.drop_eq_getElem_cons hy, cmpL, List.getD_eq_getElem?_getD, List.getD_eq_getElem?_getD, List.getElem?_eq_getElem hx, List.getElem?_eq_getElem hy]
  rfl
end Go.Proofs.YtbhkegdohiekfaaDoor.ids

namespace Go.Proofs.YtbhkegdohiekfaaDoor.opn
open Go.RowKit Go.Proofs.YtbhkegdohiekfaaDoor.mem Go.Proofs.YtbhkegdohiekfaaDoor.sha Go.Proofs.YtbhkegdohiekfaaDoor.ids

/-- the first k bytes, and zeros -/
def xAcc (t : List UInt8) (k : Nat) : List UInt8 := t.take k ++ List.replicate (32 - k) 0
theorem xAcc_len (t : List UInt8) (k : Nat) (h : k ≤ t.length) (hk : k ≤ 32) : (xAcc t k).length = 32 := by
  unfold xAcc
  rw [List.length_append, List.length_take, List.length_replicate]; omega
theorem xAcc_set (t : List UInt8) (k : Nat) (h : k < t.length) (hk : k < 32) : (xAcc t k).set k (t.getD k 0) = xAcc t (k + 1) := by
  unfold xAcc
  have hl : (t.take k).length = k := by rw [List.length_take]; omega
  rw [List.set_append_right _ _ (by rw [hl]; exact Nat.le_refl _), hl, Nat.sub_self, show 32 - k = (32 - (k + 1)) + 1 by omega, List.replicate_succ, List.set_cons_zero, List.take_succ_eq_append_getElem h, List.append_assoc, List.getD_eq_getElem?_getD, List.getElem?_eq_getElem h]
  rfl
theorem byte_set {w : World} {S : Nat} {t : TypeId} {l : List UInt8} (h : Blk w S t (bv l).toArray) (j : Nat) (c : UInt8) : Blk (w.setCell ⟨S, j, none⟩ (.int .u8 (B c))) S t (bv (l.set j c)).toArray := by
  have := h.set_ j (.int .u8 (B c))
  rw [List.setIfInBounds_toArray] at this
  unfold bv at this ⊢
  rw [List.map_set]
  exact this
theorem zid_len : zid.length = 32 := by simp [zid]
theorem xAcc_zero (t : List UInt8) : xAcc t 0 = zid := rfl
theorem xAcc_end (t : List UInt8) (h : t.length = 0 ∨ t.length = 32) : xAcc t t.length = mkId t := by
  unfold mkId
  rcases h with h | h
  · rw [List.eq_nil_of_length_eq_zero h, if_pos rfl]; rfl
  · rw [if_neg (fun e => by rw [e] at h; simp at h)]
    unfold xAcc
    rw [h, Nat.sub_self, List.replicate_zero, List.append_nil, ← h, List.take_length]
end Go.Proofs.YtbhkegdohiekfaaDoor.opn
