/-
  petrelref04: errors told plainly.
-/
import Derived.Test.YtlbieneklijpeaaDoorFflt
import Derived.Test.YtlbieneklijpeaaDoorFsame
namespace Go.Proofs.YtlbieneklijpeaaDoor.fault
open Go.RowKit Go.Proofs.YtlbieneklijpeaaDoor.mem Go.Proofs.YtlbieneklijpeaaDoor.sha Go.Proofs.YtlbieneklijpeaaDoor.ids Go.Proofs.YtlbieneklijpeaaDoor.rows

/-- a slice's block is one of F -/
def Foot (F : Nat → Prop) (v : Value) : Prop := ∀ b off n c, v = .slice (some ⟨b, off, none⟩) n c → n ≠ 0 → F b
theorem Foot.nil (F : Nat → Prop) : Foot F (.slice none 0 0) := fun b off n c e _ => by cases e
theorem Foot.mono {F G : Nat → Prop} {v : Value} (h : Foot F v) (hFG : ∀ k, F k → G k) : Foot G v := fun b off n c e hn => hFG _ (h b off n c e hn)
theorem Foot.one {F : Nat → Prop} {g n c : Nat} (h : F g) : Foot F (.slice (some ⟨g, 0, none⟩) n c) := fun b off n c e _ => by cases e; exact h
theorem RdC.keep {w w' : World} {F G : Nat → Prop} {v : Value} {xs : List Value} (h : RdC w v xs) (hf : Foot F v) (ht : Turn G w w') (hFG : ∀ k, F k → ¬ G k) : RdC w' v xs := by
  obtain ⟨ad, cp, rfl⟩ := h.form
  by_cases hne : xs.length = 0
  · obtain rfl := List.eq_nil_of_length_eq_zero hne
    obtain ⟨h2, ad', cap', hv, h3, h4, h5, h6, _⟩ := h
    cases hv
    exact ⟨h2, ad, cp, rfl, h3, h4, h5, h6, .inl rfl⟩
  · exact h.turn ht fun b off e _ => hFG _ (hf b off _ _ (by rw [e]) hne)
theorem RdV.keep {w w' : World} {F G : Nat → Prop} {v : Value} {L : List Id} (h : RdV w v L) (hf : Foot F v) (ht : Turn G w w') (hFG : ∀ k, F k → ¬ G k) : RdV w' v L := by
  obtain ⟨ad, cp, rfl⟩ := h.form
  by_cases hne : L.length = 0
  · obtain rfl := List.eq_nil_of_length_eq_zero hne
    obtain ⟨h1, h2, ad', cap', hv, h3, h4, h5, h6, _⟩ := h
    cases hv
    exact ⟨h1, h2, ad, cp, rfl, h3, h4, h5, h6, .inl rfl⟩
  · exact h.turn ht fun b off e _ => hFG _ (hf b off _ _ (by rw [e]) hne)
theorem RdC.foot {w : World} {F : Nat → Prop} {v : Value} {xs : List Value} (h : RdC w v xs) (hf : Foot F v) : Foot (fun k => F k ∧ k < w.heap.size) v := by
  intro b off n c e hn
  refine ⟨hf b off n c e hn, ?_⟩
  subst e
  have hl := h.len
  obtain ⟨b', off', e, hb, _⟩ := h.cell (i := 0) (by omega)
  cases e
  exact hb
theorem RdV.foot {w : World} {F : Nat → Prop} {v : Value} {L : List Id} (h : RdV w v L) (hf : Foot F v) : Foot (fun k => F k ∧ k < w.heap.size) v := by
  intro b off n c e hn
  refine ⟨hf b off n c e hn, ?_⟩
  subst e
  have hl := h.len
  obtain ⟨b', off', e, _, hb, _⟩ := h.load (i := 0) (by omega)
  cases e
  exact hb
/-- how it lies in memory: three lists -/
structure FRd (w : World) (F : Nat → Prop) (a b c : Value) (f : Flt) : Prop where
  nums : RdC w a (ints f.nums)
  ops : RdC w b (texts f.ops)
  reps : ∃ rv : List Value, RdC w c rv ∧ rv.length = f.reps.length ∧ ∀ i, i < f.reps.length → RdV w (rv.getD i undef) (f.reps.getD i []) ∧ Foot F (rv.getD i undef)
  foot : Foot F a ∧ Foot F b ∧ Foot F c
theorem FRd.next {w w' : World} {F : Nat → Prop} {a b c : Value} {f : Flt} (h : FRd w F a b c f) (hb : Below w.heap.size w w') : FRd w' F a b c f := by
  obtain ⟨rv, h1, h2, h3⟩ := h.reps
  exact ⟨h.nums.next hb, h.ops.next hb, ⟨rv, h1.next hb, h2, fun i hi => ⟨(h3 i hi).1.next hb, (h3 i hi).2⟩⟩, h.foot⟩
theorem FRd.mono {w : World} {F G : Nat → Prop} {a b c : Value} {f : Flt} (h : FRd w F a b c f) (hFG : ∀ k, F k → G k) : FRd w G a b c f := by
  obtain ⟨rv, h1, h2, h3⟩ := h.reps
  exact ⟨h.nums, h.ops, ⟨rv, h1, h2, fun i hi => ⟨(h3 i hi).1, (h3 i hi).2.mono hFG⟩⟩, h.foot.1.mono hFG, h.foot.2.1.mono hFG, h.foot.2.2.mono hFG⟩
theorem FRd.turn {w w' : World} {F G : Nat → Prop} {a b c : Value} {f : Flt} (h : FRd w F a b c f) (ht : Turn G w w') (hFG : ∀ k, F k → ¬ G k) : FRd w' F a b c f := by
  obtain ⟨rv, h1, h2, h3⟩ := h.reps
  exact ⟨RdC.keep h.nums h.foot.1 ht hFG, RdC.keep h.ops h.foot.2.1 ht hFG, ⟨rv, RdC.keep h1 h.foot.2.2 ht hFG, h2, fun i hi => ⟨RdV.keep (h3 i hi).1 (h3 i hi).2 ht hFG, (h3 i hi).2⟩⟩, h.foot⟩
theorem FRd.cap {w : World} {F : Nat → Prop} {a b c : Value} {f : Flt} (h : FRd w F a b c f) : FRd w (fun k => F k ∧ k < w.heap.size) a b c f := by
  obtain ⟨rv, h1, h2, h3⟩ := h.reps
  exact ⟨h.nums, h.ops, ⟨rv, h1, h2, fun i hi => ⟨(h3 i hi).1, RdV.foot (h3 i hi).1 (h3 i hi).2⟩⟩, RdC.foot h.nums h.foot.1, RdC.foot h.ops h.foot.2.1, RdC.foot h1 h.foot.2.2⟩
theorem FRd.nil (w : World) (F : Nat → Prop) : FRd w F (.slice none 0 0) (.slice none 0 0) (.slice none 0 0) noF :=
  ⟨RdC.nil w, RdC.nil w, ⟨[], RdC.nil w, rfl, fun i hi => by simp [noF] at hi⟩, Foot.nil F, Foot.nil F, Foot.nil F⟩
theorem eInt : Elem 25 3 8 := Elem.of (z := .int .i64 0) Tryd.underlying25 (by kernel_rfl) rfl
theorem eStr : Elem 26 9 16 := Elem.of (z := .string ⟨#[]⟩) Tryd.underlying26 (by kernel_rfl) rfl
theorem eRep : Elem 27 37 24 := Elem.of (z := .slice none 0 0) Tryd.underlying27 (by kernel_rfl) rfl
theorem info_flt : (Tryd.prog.info? 29).map (·.size) = some 3 := by kernel_rfl
theorem results_flt {fn : Func} {p : Tmp} (h : fn.results = #[.cell p 29]) (tmps : Array Value) (w : World) (g : Nat) (a b c : Value) (hp : tmps.getD p undef = .pointer (some ⟨g, 0, none⟩)) (hg : Blk w g 29 #[a, b, c]) :
    (results fn tmps).run Tryd.prog w = .ok (.agg #[a, b, c]) w :=
  results_cell_row h tmps w g 29 #[a, b, c] (0, 0) _ hp hg Tryd.underlying29 rfl (by rw [info_flt]; rfl)

set_option maxHeartbeats 1000000 in
set_option maxRecDepth 100000 in
theorem rnew_any (e : Int) (w : World) : Calls Tryd.prog 20 #[.int .i64 e] w fun x w' => ∃ a b c, x = .returned (.agg #[a, b, c]) ∧ FRd w' (w.heap.size ≤ ·) a b c (newF e) ∧ Below w.heap.size w w' := by
  by_cases h0 : e = 0
  · subst h0
    go_enter Tryd.func20, Tryd.ntmps20
    go_wp2_with fail
    refine bodyPost_ret (results_flt rfl _ _ w.heap.size _ _ _ rfl (Blk.new _ _ _)) rfl ⟨_, _, _, rfl, ?_, (Below.refl _ _).alloc (Nat.le_refl _) _⟩
    exact FRd.nil _ _
  · have he : (e == 0) = false := beq_eq_false_iff_ne.2 h0
    have hn : newF e = ⟨[e], [], []⟩ := by unfold newF; rw [if_neg h0]
    have HN := Lib.hid hn
    clear h0 hn
    go_enter Tryd.func20, Tryd.ntmps20
    go_wp2_with fail
    have hr1 := (OwnC.laid1 (w.alloc (.cells #[.slice (some ⟨w.heap.size + 1, 0, none⟩) 1 1, .slice none 0 0, .slice none 0 0] 29)) (fun _ => True) 3 (.int .i64 e) (fun _ _ => trivial)).rdc (by simp)
    refine bodyPost_ret (results_flt rfl _ _ w.heap.size _ _ _ rfl ((Blk.new w _ _).alloc _)) rfl ⟨_, _, _, rfl, ?_, ((Below.refl _ _).alloc (Nat.le_refl _) _).alloc (by simp) _⟩
    rw [HN.out]
    have hs : (w.alloc (.cells #[.slice (some ⟨w.heap.size + 1, 0, none⟩) 1 1, .slice none 0 0, .slice none 0 0] 29)).heap.size = w.heap.size + 1 := by simp
    rw [hs] at hr1
    exact ⟨hr1.1, RdC.nil _, ⟨[], RdC.nil _, rfl, fun i hi => by simp at hi⟩, Foot.one (Nat.le_succ _), Foot.nil _, Foot.nil _⟩

theorem step_store_flt {ops : Array Oper} {rest : List Oper} {o : Oper} {a : Act} {w : World} {Q : Exit → Act → World → Prop} {x y : Operand} {g : Nat} {a1 b1 c1 o1 o2 o3 : Value} (hg : o.guard = none) (ho : o.op = .store 29 x y)
    (hx : a.eval x = .pointer (some ⟨g, 0, none⟩)) (hy : a.eval y = .agg #[a1, b1, c1]) (hb : Blk w g 29 #[o1, o2, o3]) (h1 : #[a1, b1, c1].all (·.oneCell') = true)
    (h : wpList Tryd.prog ops Q rest (a.put o.dst undef) (w.setRow g #[a1, b1, c1])) : wpList Tryd.prog ops Q (o :: rest) a w :=
  wpList_store_row hg 29 x y ho g #[a1, b1, c1] hx hy 29 #[o1, o2, o3] hb (by rw [info_flt]; rfl) rfl h1 h

set_option maxHeartbeats 1000000 in
set_option maxRecDepth 100000 in
theorem ris_any {F : Nat → Prop} (f : Flt) (e : Int) (a b c : Value) (w : World) (h : FRd w F a b c f) (hmax : f.nums.length < 1000000) : Calls Tryd.prog 11 #[.agg #[a, b, c], .int .i64 e] w fun x w' => x = .returned (.bool (isF f e)) ∧ Below w.heap.size w w' := by
  obtain ⟨ad, cap, rfl⟩ := h.nums.form
  have hlen : (ints f.nums).length = f.nums.length := by unfold ints; rw [List.length_map]
  rw [hlen] at h ⊢
  obtain ⟨w1, hw1⟩ : ∃ u, u = w.alloc (.cells #[.slice ad f.nums.length cap, b, c] 29) := ⟨_, rfl⟩
  obtain ⟨S, hS⟩ : ∃ S, S = w.heap.size := ⟨_, rfl⟩
  have hX : Blk w1 S 29 #[.slice ad f.nums.length cap, b, c] := by rw [hw1, hS]; exact Blk.new w _ _
  have hB : Below w.heap.size w w1 := by rw [hw1]; exact (Below.refl _ _).alloc (Nat.le_refl _) _
  have hN := h.nums.next hB
  have c0 : w1.cell? ⟨S, 0, none⟩ = some (.slice ad f.nums.length cap) := hX.cell 0
  have HN := Lib.hid hN
  have HB := Lib.hid hB
  have HW := Lib.hid hw1
  have HSS := Lib.hid hS
  clear hX hB hw1 hN h hS
  by_cases h0 : e = 0
  · subst h0
    have hi : isF f 0 = (((f.nums.length : Int)) == 0) := by
      unfold isF
      rw [if_pos rfl]
      cases f.nums with
      | nil => rfl
      | cons x l => rw [List.isEmpty_cons]; symm; exact beq_eq_false_iff_ne.2 (by rw [List.length_cons]; omega)
    have HI := Lib.hid hi
    clear hi
    go_enter Tryd.func11, Tryd.ntmps11
    go_upto_region 1 with fail
    refine wp_at HW.out.symm ?_
    rw [← HSS.out]
    clear HW
    go_wp2_with fail
    go_ret
    exact ⟨by rw [HI.out]; rfl, HB.out⟩
  · have he : (e == 0) = false := beq_eq_false_iff_ne.2 h0
    have HI : Hid (isF f e = f.nums.contains e) := Lib.hid (by unfold isF; rw [if_neg h0])
    clear h0
    go_enter Tryd.func11, Tryd.ntmps11
    go_upto_region 1 with fail
    refine wp_at HW.out.symm ?_
    rw [← HSS.out]
    clear HW
    go_wp2_with fail
    go_loopw [5] (fun i wr => ∃ k : Nat, k ≤ f.nums.length ∧ i = .int .i64 k ∧ (∀ j, j < k → ¬ f.nums.getD j 0 = e) ∧ wr = w1) (fun i _ => f.nums.length - (intOf i).toNat)
    case atStart => exact ⟨0, Nat.zero_le _, rfl, fun j hj => by omega, rfl⟩
    case round =>
      obtain ⟨k, hk, rfl, hno, rfl⟩ := hrel
      have HNO := Lib.hid hno
      have k0 : (0 : Int) ≤ (k : Int) := Int.natCast_nonneg _
      clear hno
      by_cases hlt : k < f.nums.length
      · have kI : (k : Int) < (f.nums.length : Int) := by omega
        have hgd : (ints f.nums).getD k undef = .int .i64 (f.nums.getD k 0) := by
          unfold ints
          rw [List.getD_eq_getElem?_getD, List.getElem?_map, List.getD_eq_getElem?_getD, List.getElem?_eq_getElem hlt]
          rfl
        obtain ⟨b2, off, rfl, hb, hc⟩ := HN.out.cell (i := k) (by rw [hlen]; exact hlt)
        rw [hgd] at hc
        obtain ⟨y, hy⟩ : ∃ y, y = f.nums.getD k 0 := ⟨_, rfl⟩
        rw [← hy] at hc
        have HY := Lib.hid hy.symm
        clear hy hgd
        by_cases hye : y = e
        · have hb1 : (y == e) = true := by rw [hye]; exact beq_self_eq_true e
          have hcon : f.nums.contains e = true := by
            rw [List.contains_iff_mem, ← hye, ← HY.out, List.getD_eq_getElem?_getD, List.getElem?_eq_getElem hlt]
            exact List.getElem_mem _
          have HC := Lib.hid hcon
          clear hye hcon
          go_wp2_with fail
          go_ret
          exact ⟨by rw [HI.out, HC.out]; rfl, HB.out⟩
        · have hb1 : (y == e) = false := beq_eq_false_iff_ne.2 hye
          have HE := Lib.hid hye
          clear hye
          go_wp2_with fail
          go_roundw
          case rel =>
            refine ⟨k + 1, hlt, by push_cast; rfl, fun j hj => ?_, trivial⟩
            rcases Nat.lt_or_ge j k with h | h
            · exact HNO.out j h
            · obtain rfl : j = k := by omega
              rw [HY.out]; exact HE.out
          case measure => simp [intOf]; omega
      · obtain rfl : k = f.nums.length := by omega
        have hcon : f.nums.contains e = false := by
          rw [Bool.eq_false_iff, ne_eq, List.contains_iff_mem]
          intro hm
          obtain ⟨j, hj, hje⟩ := List.getElem_of_mem hm
          refine HNO.out j hj ?_
          rw [List.getD_eq_getElem?_getD, List.getElem?_eq_getElem hj]
          exact hje
        have HC := Lib.hid hcon
        clear hcon hlt
        go_wp2_with fail
        go_ret
        exact ⟨by rw [HI.out, HC.out]; rfl, HB.out⟩
end Go.Proofs.YtlbieneklijpeaaDoor.fault
