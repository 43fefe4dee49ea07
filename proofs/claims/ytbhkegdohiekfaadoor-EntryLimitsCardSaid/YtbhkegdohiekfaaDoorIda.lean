/-
  Ids (arrays of 32 bytes) and rows of them: how they lie in memory, how they are read; a row of the call's own.
-/
import Derived.Test.YtbhkegdohiekfaaDoorRd0
import Derived.Laws.IdiomStrings
import Derived.Laws.MakeOwn
import Derived.Test.YtbhkegdohiekfaaDoorStepl
import Derived.Test.YtbhkegdohiekfaaDoorSha
import Derived.Laws.OwnMore
import Derived.Laws.CopyOwn
import Derived.Maps.AppendAt
import Derived.Stop.BytesEq
namespace Go.Proofs.YtbhkegdohiekfaaDoor.ids
open Go.RowKit Go.Proofs.YtbhkegdohiekfaaDoor.mem Go.Proofs.YtbhkegdohiekfaaDoor.sha

def okIds (L : List (List UInt8)) : Prop := ∀ x ∈ L, x.length = 32
def idv (x : List UInt8) : Value := .agg (bv x).toArray
def fl : List (List UInt8) → List Value
  | [] => []
  | x :: L => bv x ++ fl L
theorem okIds.nil : okIds [] := fun _ h => by cases h
theorem okIds.append {L M : List (List UInt8)} (h : okIds L) (k : okIds M) : okIds (L ++ M) := fun x hx => (List.mem_append.1 hx).elim (h x) (k x)
theorem okIds.one {x : List UInt8} (h : x.length = 32) : okIds [x] := fun y hy => by rw [List.mem_singleton.1 hy]; exact h
theorem okIds.take {L : List (List UInt8)} (h : okIds L) (k : Nat) : okIds (L.take k) := fun x hx => h x (List.mem_of_mem_take hx)
theorem okIds.drop {L : List (List UInt8)} (h : okIds L) (k : Nat) : okIds (L.drop k) := fun x hx => h x (List.mem_of_mem_drop hx)
theorem okIds.get {L : List (List UInt8)} (h : okIds L) {i : Nat} (hi : i < L.length) : (L.getD i []).length = 32 := by
  rw [List.getD_eq_getElem?_getD, List.getElem?_eq_getElem hi]
  exact h _ (List.getElem_mem _)
theorem fl_append : ∀ L M : List (List UInt8), fl (L ++ M) = fl L ++ fl M
  | [], _ => rfl
  | x :: L, M => by rw [List.cons_append, fl, fl, fl_append L M, List.append_assoc]
theorem fl_len : ∀ {L : List (List UInt8)}, okIds L → (fl L).length = L.length * 32
  | [], _ => rfl
  | x :: L, h => by
    rw [fl, List.length_append, bv_length, h x List.mem_cons_self, fl_len (fun y hy => h y (List.mem_cons_of_mem _ hy)), List.length_cons, Nat.succ_mul]
    omega
theorem fl_one (x : List UInt8) : fl [x] = bv x := by rw [fl, fl, List.append_nil]
theorem fl_drop : ∀ (i : Nat) {L : List (List UInt8)}, okIds L → (fl L).drop (i * 32) = fl (L.drop i)
  | 0, L, _ => by rw [Nat.zero_mul, List.drop_zero, List.drop_zero]
  | i + 1, [], _ => by rw [fl, List.drop_nil, List.drop_nil, fl]
  | i + 1, x :: L, h => by
    have hx : (bv x).length = 32 := by rw [bv_length]; exact h x List.mem_cons_self
    rw [fl, List.drop_succ_cons, ← fl_drop i (fun y hy => h y (List.mem_cons_of_mem _ hy)), Nat.succ_mul, Nat.add_comm, ← List.drop_drop, List.drop_left' hx]
theorem fl_take : ∀ (i : Nat) {L : List (List UInt8)}, okIds L → (fl L).take (i * 32) = fl (L.take i)
  | 0, L, _ => by rw [Nat.zero_mul, List.take_zero, List.take_zero, fl]
  | i + 1, [], _ => by rw [fl, List.take_nil, List.take_nil, fl]
  | i + 1, x :: L, h => by
    have hx : (bv x).length = 32 := by rw [bv_length]; exact h x List.mem_cons_self
    rw [fl, List.take_succ_cons, fl, ← fl_take i (fun y hy => h y (List.mem_cons_of_mem _ hy)), Nat.succ_mul, Nat.add_comm, List.take_append, hx, List.take_of_length_le (by omega), show 32 + i * 32 - 32 = i * 32 by omega]
theorem fl_get {L : List (List UInt8)} (h : okIds L) {i j : Nat} (hi : i < L.length) (hj : j < 32) : (fl L)[i * 32 + j]? = some (.int .u8 (B ((L.getD i []).getD j 0))) := by
  have hx := h.get hi
  have e : L.drop i = L.getD i [] :: L.drop (i + 1) := by rw [List.getD_eq_getElem?_getD, List.getElem?_eq_getElem hi, Option.getD_some, List.drop_eq_getElem_cons hi]
  rw [← List.getElem?_drop, fl_drop i h, e, fl, List.getElem?_append_left (by rw [bv_length, hx]; exact hj)]
  exact bv_get _ _ (by rw [hx]; exact hj)
theorem one_fl (L : List (List UInt8)) : ∀ u ∈ fl L, u.oneCell' = true := by
  induction L with
  | nil => intro u hu; cases hu
  | cons x L ih =>
    intro u hu
    rw [fl] at hu
    rcases List.mem_append.1 hu with h | h
    · simp only [bv, List.mem_map] at h
      obtain ⟨y, _, rfl⟩ := h
      rfl
    · exact ih u h

theorem info_id : (Tryd.prog.info? 23).map (fun i => (i.zero, i.size, i.bytes)) = some (some (.agg (Array.replicate 32 (.int .u8 0))), 32, 32) := by kernel_rfl
theorem info_id' : (Tryd.prog.info? 23).map (·.size) = some 32 := by kernel_rfl

/-- an id out of a list -/
theorem run_load_id {w : World} {b off : Nat} {L : List (List UInt8)} (hL : okIds L) (hc : ∀ k v, (fl L)[k]? = some v → w.cell? ⟨b, off + k, none⟩ = some v) {i : Nat} (hi : i < L.length) :
    (Instr.loadAt 23 (.pointer (some ⟨b, off + i * 32, none⟩))).run Tryd.prog w = .ok (idv (L.getD i [])) w := by
  have hx := hL.get hi
  refine run_load_mid w b (off + i * 32) 32 23 5 (bv (L.getD i [])) (fun j v hv => ?_) Tryd.underlying23 (by rw [info_id', bv_length, hx])
  have hj : j < 32 := by have := (List.getElem?_eq_some_iff.1 hv).1; rw [bv_length, hx] at this; exact this
  rw [bv_get _ _ (by rw [hx]; exact hj)] at hv
  rw [Nat.add_assoc]
  exact (hc _ _ (fl_get hL hi hj)).trans hv
theorem Rd.load {w : World} {ad : Option Addr} {L : List (List UInt8)} (h : Rd w ad (fl L)) (hL : okIds L) {i : Nat} (hi : i < L.length) :
    ∃ b off, ad = some ⟨b, off, none⟩ ∧ b < w.heap.size ∧ (∀ k v, (fl L)[k]? = some v → w.cell? ⟨b, off + k, none⟩ = some v) := by
  rcases h with h | ⟨b, off, h, hb, hc⟩
  · have := fl_len hL; rw [h] at this; simp at this; omega
  · exact ⟨b, off, h, hb, hc⟩

/-- a list of the call's own, its row one of F, one that grows in place -/
def OwnI (w : World) (F : Nat → Prop) (v : Value) (L : List (List UInt8)) : Prop := okIds L ∧ w.ownsRow 0 23 32 v L.length (fl L) ∧ ∀ k, v.ownBlock = some k → F k
theorem OwnI.nil (w : World) (F : Nat → Prop) : OwnI w F (.slice none 0 0) [] := ⟨okIds.nil, World.ownsRow_nil w 0 _ 32, fun k hk => by simp [Value.ownBlock] at hk⟩
theorem OwnI.turn {w w' : World} {F G : Nat → Prop} {v : Value} {L : List (List UInt8)} (h : OwnI w F v L) (ht : Turn G w w') (hg : ∀ k, v.ownBlock = some k → ¬ G k) : OwnI w' F v L := by
  refine ⟨h.1, ⟨h.2.1.1, ?_⟩, h.2.2⟩
  rcases h.2.1.2 with h0 | ⟨g, cap, cur, rfl, hb, hh, hr⟩
  · exact .inl h0
  · exact .inr ⟨g, cap, cur, rfl, hb, (ht.block g (hg g rfl)).trans hh, hr⟩
theorem OwnI.mono {w : World} {F G : Nat → Prop} {v : Value} {L : List (List UInt8)} (h : OwnI w F v L) (hFG : ∀ k, F k → G k) : OwnI w G v L := ⟨h.1, h.2.1, fun k hk => hFG k (h.2.2 k hk)⟩
theorem OwnI.lt {w : World} {F : Nat → Prop} {v : Value} {L : List (List UInt8)} (h : OwnI w F v L) {k : Nat} (hk : v.ownBlock = some k) : k < w.heap.size := (h.2.1.lt k hk).2
theorem OwnI.below {w w' : World} {F : Nat → Prop} {v : Value} {L : List (List UInt8)} (h : OwnI w F v L) (hb : Below w.heap.size w w') : OwnI w' F v L :=
  h.turn (Turn.ofBelow hb) fun k hk => by have := h.lt hk; omega
/-- its form, and how it reads -/
theorem OwnI.form {w : World} {F : Nat → Prop} {v : Value} {L : List (List UInt8)} (h : OwnI w F v L) : ∃ ad cap, v = .slice ad L.length cap ∧ Rd w ad (fl L) ∧ (∀ b off z, ad = some ⟨b, off, z⟩ → F b) := by
  rcases h.2.1.2 with ⟨rfl, hn⟩ | ⟨g, cap, cur, rfl, hb, hh, hr⟩
  · refine ⟨none, 0, by rw [hn], ?_, fun b off z hz => by cases hz⟩
    have : L = [] := List.eq_nil_of_length_eq_zero hn
    subst this
    exact .inl rfl
  · refine ⟨some ⟨g, 0, none⟩, cap, rfl, .inr ⟨g, 0, rfl, (Array.getElem?_eq_some_iff.1 hh).1, fun k u hu => ?_⟩, fun b off z hz => ?_⟩
    · have := h.2.1.cells (g := g) rfl k u hu
      rw [Addr.add_lit] at this
      exact this
    · cases hz; exact h.2.2 g rfl

theorem eql_ids (w : World) (xs ys : List UInt8) (hx : xs.length = 32) (hy : ys.length = 32) : (binOp .eql 23 (idv xs) (idv ys)).run Tryd.prog w = .ok (.bool (xs == ys)) w := by
  obtain ⟨y, hy5, _, hs, _⟩ := info_parts info5
  exact run_eql_bytes w 23 5 32 Tryd.underlying23 Tryd.underlying5 (fun w => by simp [sizeOf, typeInfo, hy5, hs]) xs ys hx hy
theorem equalIn_ids (w : World) (xs ys : List UInt8) (hx : xs.length = 32) (hy : ys.length = 32) : (Op.equalIn 10000 23 (.agg (bv xs).toArray) (.agg (bv ys).toArray)).run Tryd.prog w = .ok (xs == ys) w := by
  obtain ⟨y, hy5, _, hs, _⟩ := info_parts info5
  exact run_equalIn_bytes w 9998 23 5 32 Tryd.underlying23 Tryd.underlying5 (fun w => by simp [sizeOf, typeInfo, hy5, hs]) xs ys hx hy
theorem neq_ids (w : World) (xs ys : List UInt8) (hx : xs.length = 32) (hy : ys.length = 32) : (binOp .neq 23 (idv xs) (idv ys)).run Tryd.prog w = .ok (.bool (xs != ys)) w := by
  obtain ⟨y, hy5, _, hs, _⟩ := info_parts info5
  have h : (Op.equalIn 10000 23 (.agg (bv xs).toArray) (.agg (bv ys).toArray)).run Tryd.prog w = .ok (xs == ys) w := run_equalIn_bytes w 9998 23 5 32 Tryd.underlying23 Tryd.underlying5 (fun w => by simp [sizeOf, typeInfo, hy5, hs]) xs ys hx hy
  unfold idv
  rw [run_neq_struct, h]
  rfl

/-- a list of ids as a value -/
structure RdV (w : World) (v : Value) (L : List (List UInt8)) : Prop where
  ok : okIds L
  max : L.length ≤ 4398046511104
  at_ : ∃ ad cap, v = .slice ad L.length cap ∧ L.length ≤ cap ∧ cap ≤ maxLen ∧ (ad = none → cap = 0) ∧ (∀ a, ad = some a → 0 < cap → ∃ b off, a = ⟨b, off, none⟩) ∧ Rd w ad (fl L)
theorem RdV.turn {F : Nat → Prop} {w w' : World} {ad : Option Addr} {n cap : Nat} {L : List (List UInt8)} (h : RdV w (.slice ad n cap) L) (ht : Turn F w w') (hF : ∀ b off, ad = some ⟨b, off, none⟩ → b < w.heap.size → ¬ F b) : RdV w' (.slice ad n cap) L := by
  obtain ⟨h1, h2, ad', cap', hv, h3, h4, h5, h6, h7⟩ := h
  cases hv
  exact ⟨h1, h2, ad, cap, rfl, h3, h4, h5, h6, h7.turn ht hF⟩
theorem RdV.below {w w' : World} {v : Value} {L : List (List UInt8)} (h : RdV w v L) {B : Nat} (hb : Below B w w') (hB : w.heap.size ≤ B) : RdV w' v L := by
  obtain ⟨h1, h2, ad', cap', hv, h3, h4, h5, h6, h7⟩ := h
  exact ⟨h1, h2, ad', cap', hv, h3, h4, h5, h6, h7.below hb hB⟩
theorem RdV.next {w w' : World} {v : Value} {L : List (List UInt8)} (h : RdV w v L) (hb : Below w.heap.size w w') : RdV w' v L := h.below hb (Nat.le_refl _)
theorem RdV.form {w : World} {v : Value} {L : List (List UInt8)} (h : RdV w v L) : ∃ ad cap, v = .slice ad L.length cap := by
  obtain ⟨h1, h2, ad', cap', hv, _⟩ := h
  exact ⟨ad', cap', hv⟩
theorem RdV.len {w : World} {ad : Option Addr} {n cap : Nat} {L : List (List UInt8)} (h : RdV w (.slice ad n cap) L) : n = L.length := by
  obtain ⟨h1, h2, ad', cap', hv, _⟩ := h
  cases hv; rfl
theorem RdV.drewN {w : World} {v : Value} {L : List (List UInt8)} (h : RdV w v L) (n : Nat) : RdV (w.drewN n) v L := ⟨h.ok, h.max, h.at_⟩
theorem RdV.load {w : World} {ad : Option Addr} {n cap : Nat} {L : List (List UInt8)} (h : RdV w (.slice ad n cap) L) {i : Nat} (hi : i < L.length) :
    ∃ b off, ad = some ⟨b, off, none⟩ ∧ n = L.length ∧ b < w.heap.size ∧ ∀ m, (Instr.loadAt 23 (.pointer (some ⟨b, off + i * 32, none⟩))).run Tryd.prog (w.drewN m) = .ok (.agg (bv (L.getD i [])).toArray) (w.drewN m) := by
  obtain ⟨h1, h2, ad', cap', hv, h3, h4, h5, h6, h7⟩ := h
  cases hv
  obtain ⟨b, off, rfl, hb, hc⟩ := h7.load h1 hi
  exact ⟨b, off, rfl, rfl, hb, fun m => run_load_id (w := w.drewN m) h1 hc hi⟩
/-- .. where the address is known -/
theorem RdV.load_at {w : World} {b off : Nat} {n cap : Nat} {L : List (List UInt8)} (h : RdV w (.slice (some ⟨b, off, none⟩) n cap) L) {i : Nat} (hi : i < L.length) :
    (Instr.loadAt 23 (.pointer (some ⟨b, off + i * 32, none⟩))).run Tryd.prog w = .ok (.agg (bv (L.getD i [])).toArray) w := by
  obtain ⟨b', off', e, _, _, hl⟩ := h.load hi
  cases e
  exact hl 0
theorem RdV.load_y {w : World} {b off : Nat} {n cap : Nat} {L : List (List UInt8)} {y : List UInt8} (h : RdV w (.slice (some ⟨b, off, none⟩) n cap) L) {i : Nat} (hi : i < L.length) (e : L.getD i [] = y) :
    (Instr.loadAt 23 (.pointer (some ⟨b, off + i * 32, none⟩))).run Tryd.prog w = .ok (.agg (bv y).toArray) w := by
  rw [← e]; exact h.load_at hi
theorem box_load {w : World} {S : Nat} {x : List UInt8} (h : Blk w S 23 (bv x).toArray) (hx : x.length = 32) (m : Nat) : (Instr.loadAt 23 (.pointer (some ⟨S, 0, none⟩))).run Tryd.prog (w.drewN m) = .ok (.agg (bv x).toArray) (w.drewN m) := by
  refine run_load_mid (w.drewN m) S 0 32 23 5 (bv x) (fun j v hv => ?_) Tryd.underlying23 (by rw [info_id', bv_length, hx])
  rw [Nat.zero_add]
  have := h.cell j
  rw [List.getElem?_toArray, hv] at this
  exact this
theorem OwnI.rdv {w : World} {F : Nat → Prop} {v : Value} {L : List (List UInt8)} (h : OwnI w F v L) (hm : L.length ≤ 1099511627776) : RdV w v L ∧ ∀ b off n c, v = .slice (some ⟨b, off, none⟩) n c → F b := by
  refine ⟨⟨h.1, Nat.le_trans hm (by decide), ?_⟩, fun b off n c e => h.2.2 b (by rw [e]; rfl)⟩
  rcases h.2.1.2 with ⟨rfl, hn⟩ | ⟨g, cap, cur, rfl, hb, hh, hle, hcm, hr⟩
  · have : L = [] := List.eq_nil_of_length_eq_zero hn
    subst this
    exact ⟨none, 0, rfl, Nat.le_refl _, Nat.zero_le _, fun _ => rfl, (fun a ha => by cases ha), .inl rfl⟩
  · refine ⟨some ⟨g, 0, none⟩, cap, rfl, hle, hcm, fun h => (by cases h), fun a ha _ => (by cases ha; exact ⟨g, 0, rfl⟩), .inr ⟨g, 0, rfl, (Array.getElem?_eq_some_iff.1 hh).1, fun k u hu => ?_⟩⟩
    have := h.2.1.cells (g := g) rfl k u hu
    rw [Addr.add_lit] at this
    exact this

/-- '[]Id{x}' -/
theorem fold_set : ∀ (ys : List Value) (k : Nat) (arr : Array Value), k + ys.length ≤ arr.size →
    ((ys.zipIdx k).foldl (fun cs p => cs.setIfInBounds p.2 p.1) arr).toList = arr.toList.take k ++ ys ++ arr.toList.drop (k + ys.length)
  | [], k, arr, _ => by simp
  | y :: ys, k, arr, h => by
    rw [List.zipIdx_cons, List.foldl_cons, fold_set ys (k + 1) _ (by simp at h ⊢; omega)]
    have hk : k < arr.toList.length := by simp at h ⊢; omega
    rw [Array.toList_setIfInBounds, List.take_set, List.drop_set_of_lt (by omega), List.length_cons, List.take_succ_eq_append_getElem hk, List.set_append_right _ _ (by rw [List.length_take]; omega)]
    simp only [List.length_take]
    rw [Nat.min_eq_left (by omega), Nat.sub_self, List.set_cons_zero, show k + 1 + ys.length = k + (ys.length + 1) by omega]
    simp
theorem fold_all (ys : List Value) (arr : Array Value) (h : arr.size = ys.length) : (ys.zipIdx 0).foldl (fun cs p => cs.setIfInBounds p.2 p.1) arr = ys.toArray := by
  apply Array.ext'
  rw [fold_set ys 0 arr (by omega), List.take_zero, List.nil_append, List.drop_of_length_le (by rw [Array.length_toList]; omega), List.append_nil]
/-- a list that the statement has just laid -/
theorem RdV.laid (w : World) (L : List (List UInt8)) (h : okIds L) (hm : L.length ≤ 1099511627776) : RdV (w.alloc (.cells (fl L).toArray 23)) (.slice (some ⟨w.heap.size, 0, none⟩) L.length L.length) L :=
  ⟨h, Nat.le_trans hm (by decide), _, _, rfl, Nat.le_refl _, by unfold maxLen; omega, fun h => (by cases h), fun a ha _ => (by cases ha; exact ⟨_, _, rfl⟩), .inr ⟨w.heap.size, 0, rfl, by simp, fun k v hv => by
    rw [Nat.zero_add, (Blk.new w _ _).cell k, List.getElem?_toArray]; exact hv⟩⟩
theorem OwnI.laid0 (w : World) (F : Nat → Prop) (hF : New F w) : OwnI (w.alloc (.cells #[] 23)) F (.slice (some ⟨w.heap.size, 0, none⟩) 0 0) [] :=
  ⟨okIds.nil, ⟨rfl, .inr ⟨w.heap.size, 0, #[], rfl, Nat.zero_le _, heap_alloc_new w _, Nat.le_refl _, Nat.zero_le _, rfl, rfl⟩⟩, fun k hk => by
    injection hk with hk
    subst hk
    exact hF _ (Nat.le_refl _)⟩
/-- a whole id into a block known whole, in a plain region -/
theorem step_store_id {ops : Array Oper} {rest : List Oper} {o : Oper} {a : Act} {w : World} {Q : Exit → Act → World → Prop} {x y : Operand} {g : Nat} {z y' : List UInt8} (hg : o.guard = none) (ho : o.op = .store 23 x y)
    (hx : a.eval x = .pointer (some ⟨g, 0, none⟩)) (hy : a.eval y = .agg (bv y').toArray) (hb : Blk w g 23 (bv z).toArray) (hz : z.length = 32) (hl : y'.length = 32)
    (h : wpList Tryd.prog ops Q rest (a.put o.dst undef) (w.setRow g (bv y').toArray)) : wpList Tryd.prog ops Q (o :: rest) a w :=
  wpList_store_row hg 23 x y ho g (bv y').toArray hx hy 23 (bv z).toArray hb (by rw [info_id']; simp [bv_length, hl]) (by simp [bv_length, hz, hl]) (one_bv _) h
theorem Blk.stored {w : World} {g : Nat} {z y : List UInt8} (hb : Blk w g 23 (bv z).toArray) : Blk (w.setRow g (bv y).toArray) g 23 (bv y).toArray := setRow_heap w g _ (bv y).toArray _ _ hb
theorem turn_row (w : World) (g : Nat) (cs : Array Value) : Turn (· = g) w (w.setRow g cs) := ⟨rfl, rfl, rfl, by simp, fun k hk => setRow_other w g k _ hk⟩
end Go.Proofs.YtbhkegdohiekfaaDoor.ids
