/-
 Lists of ids: what is appended to one of the call's own, pieces, '[]Id{x}'.
-/
import Derived.Test.YtpeneeddfgmjpaaGreatDoorIda
namespace Go.Proofs.YtpeneeddfgmjpaaGreatDoor.ids
open Go.RowKit Go.Proofs.YtpeneeddfgmjpaaGreatDoor.mem Go.Proofs.YtpeneeddfgmjpaaGreatDoor.sha

/-- 'append(v, x..)' -/
theorem run_append_ids (w : World) (ty : TypeId) (F : Nat → Prop) (v : Value) (L : List (List UInt8)) (hown : OwnI w F v L) (ad : Option Addr) (M : List (List UInt8)) (c : Nat) (hM : okIds M) (hr : Rd w ad (fl M)) (hc : ad = none → c = 0)
  (hlen : L.length + M.length ≤ 1099511627776) (hn : New F w) :
  ∃ v' w', (Builtin.append_ #[22, 22] ty #[v, .slice ad M.length c]).run Tryz.prog w = .ok v' w' ∧ OwnI w' F v' (L ++ M) ∧ Turn (fun k => v.ownBlock = some k ∨ w.heap.size ≤ k) w w' := by
 obtain ⟨i0, hi, hz0, hz1, hz2⟩ := info_parts info_id
 cases ad with
 | none =>
  have hM0 : M = [] := by
   rcases hr with h | ⟨b, off, h, _⟩
   ·
    cases M with
    | nil => rfl
    | cons x M =>
     have := congrArg List.length h
     rw [fl_len hM] at this
     simp at this
   ·
    cases h
  subst hM0
  rw [hc rfl, List.append_nil, List.length_nil]
  exact ⟨v, w, run_append_owned_none (P := Tryz.prog) w 0 22 ty 24 i0 32 Tryz.underlying22 hi v L.length (fl L) hown.2.1, hown, Turn.refl _ w⟩
 | some a =>
  have hnews : ∀ j u, (fl M)[j]? = some u → w.cell? (a.add j) = some u := fun j u hu => by
   rcases hr with h | ⟨b, off, h, _, hcl⟩
   ·
    rw [h] at hu; simp at hu
   ·
    cases h
    rw [Addr.add_lit]
    exact hcl j u hu
  obtain ⟨v', w', hrun, hown', hg, _, hat⟩ := run_append_own_at (P := Tryz.prog) w 0 22 ty 24 i0 _ 32 32 Tryz.underlying22 hi hz0 hz1 hz2 rfl (by decide) v L.length (fl L) hown.2.1 a M.length c (fl M) (fl_len hM) hnews (one_fl M)
   (by unfold maxLen; omega) (by omega) (Nat.zero_le _)
  refine ⟨v', w', hrun, ⟨hown.1.append hM, by rw [List.length_append, fl_append]; exact hown', fun b hb => ?_⟩, Turn.grown hg (fun k hk => .inl hk) (fun k hk => .inr hk)⟩
  rcases hat with e | e <;> rw [e] at hb
  ·
   exact hown.2.2 b hb
  ·
   injection hb with hb
   subst hb
   exact hn _ (Nat.le_refl _)
/-! Pieces of a list. -/
theorem slice_hi {w : World} {ad : Option Addr} {n cap : Nat} {L : List (List UInt8)} (h : RdV w (.slice ad n cap) L) (k : Nat) (hk : k ≤ n) (u : World) :
  (Instr.sliceAt 22 (.slice ad n cap) none (some (.int .i64 (k : Int))) none).run Tryz.prog u = .ok (.slice ad k cap) u ∧ RdV w (.slice ad k cap) (L.take k) := by
 obtain ⟨h1, h2, ad', cap', hv, h3, h4, h5, h6, h7⟩ := h
 cases hv
 obtain ⟨y, hy, _, hs, _⟩ := info_parts info_id
 have hkl : (L.take k).length = k := by rw [List.length_take]; omega
 have hr : Rd w ad (fl (L.take k)) := by
  rw [← fl_take k h1]
  rcases h7 with h | ⟨b, off, e, hb, hc⟩
  ·
   rw [h]; exact .inl List.take_nil
  ·
   refine .inr ⟨b, off, e, hb, fun j v hv => hc j v ?_⟩
   rw [List.getElem?_take] at hv
   split at hv
   ·
    exact hv
   ·
    cases hv
 refine ⟨?_, h1.take k, by omega, ad, cap, by rw [hkl], by omega, h4, h5, h6, hr⟩
 have h0 : (0 : Int) ≤ (k : Int) := Int.natCast_nonneg _
 have hc : (k : Int) ≤ (cap : Int) := by omega
 simp only [Instr.sliceAt, Instr.slice, Instr.sliceBounds, Instr.sliceBound, asIntOf, sizeOf, typeInfo, Sem.run_bind, Sem.run_pure, Result.andThen_ok, run_underlying Tryz.underlying22]
 cases ad with
 | none =>
  have := h5 rfl
  subst this
  obtain rfl : k = 0 := by omega
  simp [hy, hs]
 | some a =>
  by_cases hc0 : cap = 0
  ·
   subst hc0
   obtain rfl : k = 0 := by omega
   simp [hy, hs, Addr.add]
  ·
   obtain ⟨b, off, rfl⟩ := h6 a rfl (by omega)
   simp [hy, hs, hc, Addr.add]
/-- the value of a list from its k-th on -/
def loAd (ad : Option Addr) (cap k : Nat) : Option Addr := ad.map fun a => if cap = k then a else ⟨a.block, a.off + k * 32, none⟩
theorem slice_lo {w : World} {ad : Option Addr} {n cap : Nat} {L : List (List UInt8)} (h : RdV w (.slice ad n cap) L) (k : Nat) (hk : k ≤ n) (u : World) :
  (Instr.sliceAt 22 (.slice ad n cap) (some (.int .i64 (k : Int))) none none).run Tryz.prog u = .ok (.slice (loAd ad cap k) (n - k) (cap - k)) u ∧ RdV w (.slice (loAd ad cap k) (n - k) (cap - k)) (L.drop k) := by
 obtain ⟨h1, h2, ad', cap', hv, h3, h4, h5, h6, h7⟩ := h
 cases hv
 obtain ⟨y, hy, _, hs, _⟩ := info_parts info_id
 have hkl : (L.drop k).length = L.length - k := List.length_drop
 refine ⟨?_, h1.drop k, by omega, loAd ad cap k, cap - k, by rw [hkl], by omega, by omega, ?_, ?_, ?_⟩
 ·
  have h0 : (0 : Int) ≤ (k : Int) := Int.natCast_nonneg _
  have hc : (k : Int) ≤ (L.length : Int) := by omega
  simp only [Instr.sliceAt, Instr.slice, Instr.sliceBounds, Instr.sliceBound, asIntOf, sizeOf, typeInfo, Sem.run_bind, Sem.run_pure, Result.andThen_ok, run_underlying Tryz.underlying22]
  cases ad with
  | none =>
   have := h5 rfl
   subst this
   obtain rfl : k = 0 := by omega
   simp [hy, hs, loAd]
   try omega
  | some a =>
   by_cases hck : cap = k
   ·
    subst hck
    simp [hy, hs, hc, loAd]
   ·
    obtain ⟨b, off, rfl⟩ := h6 a rfl (by omega)
    simp [hy, hs, hc, Addr.add, loAd, hck]
    try omega
 ·
  intro h
  cases ad with
  | none => rw [h5 rfl]; omega
  | some a => simp [loAd] at h
 ·
  intro a ha hpos
  cases ad with
  | none => simp [loAd] at ha
  | some a0 =>
   obtain ⟨b, off, rfl⟩ := h6 a0 rfl (by omega)
   simp only [loAd, Option.map_some, Option.some.injEq] at ha
   subst ha
   split
   ·
    exact ⟨b, off, rfl⟩
   ·
    exact ⟨b, off + k * 32, rfl⟩
 ·
  rcases h7 with h | ⟨b, off, rfl, hb, hc⟩
  ·
   rw [← fl_drop k h1, h]; exact .inl List.drop_nil
  ·
   by_cases hck : cap = k
   ·
    have : L.drop k = [] := List.drop_of_length_le (by omega)
    rw [this]; exact .inl rfl
   ·
    refine .inr ⟨b, off + k * 32, by simp [loAd, hck], hb, fun j v hv => ?_⟩
    rw [← fl_drop k h1, List.getElem?_drop] at hv
    rw [Nat.add_assoc]
    exact hc _ v hv
theorem run_build1 (w : World) (x : List UInt8) (hx : x.length = 32) : (Instr.buildSlice 22 1 #[(0, .agg (bv x).toArray)]).run Tryz.prog w = .ok (.slice (some ⟨w.heap.size, 0, none⟩) 1 1) (w.alloc (.cells (bv x).toArray 24)) := by
 obtain ⟨y, hy, hz, hs, _⟩ := info_parts info_id
 have hf : ∀ arr : Array Value, arr.size = 32 → Instr.fill (fun i => some (i * 32, 32)) arr [(0, .agg (bv x).toArray)] = some (bv x).toArray := fun arr ha => by
  have h1 := fold_all (bv x) arr (by rw [ha, bv_length, hx])
  have hb : (bv x).length = 32 := by rw [bv_length, hx]
  simp only [Instr.fill, Value.cells, Nat.zero_mul, Nat.zero_add, List.size_toArray, hb, ha]
  simp [h1]
 unfold Instr.buildSlice
 simp only [Sem.run_bind, run_underlying Tryz.underlying22, Result.andThen_ok, sizeOf, typeInfo]
 simp only [Nat.one_mul]
 simp [hy, hs, hf, newRow, newObj]
 rfl
theorem step_build1 {ops : Array Oper} {rest : List Oper} {o : Oper} {a : Act} {w : World} {Q : Exit → Act → World → Prop} {x : Operand} {y : List UInt8} (hg : o.guard = none)
  (ho : o.op = .buildSlice 22 1 #[(0, x)]) (hx : a.eval x = .agg (bv y).toArray) (hy : y.length = 32)
  (h : wpList Tryz.prog ops Q rest (a.put o.dst (.slice (some ⟨w.heap.size, 0, none⟩) 1 1)) (w.alloc (.cells (bv y).toArray 24))) : wpList Tryz.prog ops Q (o :: rest) a w := by
 refine wpList_plain hg fun K hK => ?_
 unfold Oper.wp execOp
 have hr := run_build1 w y hy
 simp only [ho, List.map_toArray, List.map_cons, List.map_nil, hx, Sem.run_bind, hr, Result.andThen_ok, Sem.run_pure]
 exact hK _ _ h
/-- 'append(v, x..)', x a list that reads -/
theorem run_append_rd {w : World} {F : Nat → Prop} {v vx : Value} {L M : List (List UInt8)} (hown : OwnI w F v L) (hx : RdV w vx M) (hlen : L.length + M.length ≤ 1099511627776) (hn : New F w) (ty : TypeId) :
  ∃ v' w', (Builtin.append_ #[22, 22] ty #[v, vx]).run Tryz.prog w = .ok v' w' ∧ OwnI w' F v' (L ++ M) ∧ Turn (fun k => v.ownBlock = some k ∨ w.heap.size ≤ k) w w' := by
 obtain ⟨h1, h2, ad', cap', rfl, h3, h4, h5, h6, h7⟩ := hx
 exact run_append_ids w ty F v L hown ad' M cap' h1 h7 h5 hlen hn
end Go.Proofs.YtpeneeddfgmjpaaGreatDoor.ids
