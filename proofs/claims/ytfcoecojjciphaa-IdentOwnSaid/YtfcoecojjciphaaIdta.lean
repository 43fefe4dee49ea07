/-
  What package ident answers (as far as texts, ids and sets go), as a premise; petrellaw06.awake.
-/
import Derived.Test.YtfcoecojjciphaaIdsq
import Derived.Deep.RegionHeld3
namespace Go.Proofs.Ytfcoecojjciphaa.ids
open Go.RowKit Go.Proofs.Ytfcoecojjciphaa.mem Go.Proofs.Ytfcoecojjciphaa.sha Go.Proofs.Ytfcoecojjciphaa.strx

/-- a list of ids that is the caller's: it may be written -/
structure Mine (w : World) (F : Nat → Prop) (v : Value) (L : List Id) : Prop where
  rd : RdV w v L
  own : ∀ b off n c, v = .slice (some ⟨b, off, none⟩) n c → F b
  blk : L ≠ [] → ∃ b off c cur, v = .slice (some ⟨b, off, none⟩) L.length c ∧ w.heap[b]? = some (.cells cur 23 (0, 0))
theorem OwnI.mine {w : World} {F : Nat → Prop} {v : Value} {L : List Id} (h : OwnI w F v L) (hm : L.length ≤ 1099511627776) : Mine w F v L := by
  have hr := h.rdv hm
  refine ⟨hr.1, hr.2, fun hne => ?_⟩
  rcases h.2.1.2 with ⟨rfl, hn⟩ | ⟨g, cap, cur, rfl, hb, hh, _⟩
  · exact absurd (List.eq_nil_of_length_eq_zero hn) hne
  · exact ⟨g, 0, cap, cur, rfl, hh⟩

/-- what the package answers: T is what it asks of the world (its tables, if it has any) -/
structure IdentA (T : World → Prop) : Prop where
  next : ∀ {w w' : World}, T w → Below w.heap.size w w' → T w'
  compare : ∀ (x y : Id) (w : World), T w → x.length = 32 → y.length = 32 → Calls Try.prog 11 #[.agg (bv x).toArray, .agg (bv y).toArray] w fun e w' => e = .returned (.int .i64 (cmpL x y)) ∧ Below w.heap.size w w'
  text : ∀ (x : Id) (w : World), T w → x.length = 32 → Calls Try.prog 10 #[.agg (bv x).toArray] w fun e w' => e = .returned (.string (bt (textL x))) ∧ Below w.heap.size w w'
  parse : ∀ (l : List UInt8) (w : World), T w → l.length ≤ 281474976710656 → Calls Try.prog 8 #[.string (bt l)] w fun e w' => e = .returned (.tuple #[.agg (bv (parseOf l).1).toArray, .int .i64 (parseOf l).2]) ∧ Below w.heap.size w w'
  set : ∀ (L : List Id) (v : Value) (w : World), T w → RdV w v L → L.length ≤ 1000 → Calls Try.prog 18 #[v] w fun e w' => ∃ v', e = .returned v' ∧ Mine w' (w.heap.size ≤ ·) v' (setL L) ∧ Below w.heap.size w w'
  is : ∀ (L : List Id) (v : Value) (w : World), T w → RdV w v L → L.length ≤ 1000 → Calls Try.prog 19 #[v] w fun e w' => e = .returned (.bool (L == setL L)) ∧ Below w.heap.size w w'

theorem calls_at {P : Program} {f : FuncId} {args : Array Value} {w w' : World} {Q : Ending → World → Prop} (h : w = w') (k : Calls P f args w' Q) : Calls P f args w Q := h ▸ k
/-- an id of one byte -/
def oneId (c : UInt8) : Id := c :: List.replicate 31 0
theorem set_awake : setL [oneId 2, oneId 1, oneId 2] = [oneId 1, oneId 2] := by decide +kernel
theorem text_awake : (textL (oneId 171)).take 2 = [97, 98] := by decide +kernel

set_option maxHeartbeats 2000000 in
set_option maxRecDepth 100000 in
theorem awake_any {T : World → Prop} (hI : IdentA T) (w : World) (hT : T w) : Calls Try.prog 14 #[] w fun e w' => e = .returned (.bool true) ∧ Below w.heap.size w w' := by
  have HT := Lib.hid hT
  have HI := Lib.hid hI
  clear hT hI
  go_enter Try.func14, Try.ntmps14
  obtain ⟨w1, hw1⟩ : ∃ u, u = w.alloc (.cells (fl [oneId 2, oneId 1, oneId 2]).toArray 23) := ⟨_, rfl⟩
  have hok : okIds [oneId 2, oneId 1, oneId 2] := by
    intro y hy
    simp only [List.mem_cons, List.not_mem_nil, or_false] at hy
    rcases hy with rfl | rfl | rfl <;> rfl
  have hr1 : RdV w1 (.slice (some ⟨w.heap.size, 0, none⟩) 3 3) [oneId 2, oneId 1, oneId 2] := by rw [hw1]; exact RdV.laid w _ hok (by decide)
  have hb1 : Below w.heap.size w w1 := by rw [hw1]; exact (Below.refl _ _).alloc (Nat.le_refl _) _
  have HC := Lib.hid (HI.out.set _ _ w1 (HI.out.next HT.out hb1) hr1 (by decide))
  have HW1 := Lib.hid hw1
  have HB1 := Lib.hid hb1
  rw [set_awake] at HC
  clear hw1 hr1 hok hb1
  go_wp2_with fail
  refine calls_at HW1.out.symm ?_
  clear HW1
  refine HC.out.mono ?_
  rintro e w2 ⟨v2, rfl, hm2, hb2⟩
  obtain ⟨ad, cap, rfl⟩ := hm2.rd.form
  obtain ⟨b, off, rfl, -, -, -⟩ := hm2.rd.load (i := 0) (by decide)
  have hld : (Instr.loadAt 23 (.pointer (some ⟨b, off, none⟩))).run Try.prog w2 = .ok (.agg (bv (oneId 1)).toArray) w2 := hm2.rd.load_y (i := 0) (by decide) rfl
  have hB2 := HB1.out.trans (hb2.mono HB1.out.size)
  have HT2 := Lib.hid (HI.out.next HT.out hB2)
  have HB2 := Lib.hid hB2
  have heq : ∀ u : World, (Op.equalIn 10000 23 (.agg (bv (oneId 1)).toArray) (.agg #[.int .u8 1, .int .u8 0, .int .u8 0, .int .u8 0, .int .u8 0, .int .u8 0, .int .u8 0, .int .u8 0, .int .u8 0, .int .u8 0, .int .u8 0, .int .u8 0, .int .u8 0, .int .u8 0, .int .u8 0, .int .u8 0, .int .u8 0, .int .u8 0, .int .u8 0, .int .u8 0, .int .u8 0, .int .u8 0, .int .u8 0, .int .u8 0, .int .u8 0, .int .u8 0, .int .u8 0, .int .u8 0, .int .u8 0, .int .u8 0, .int .u8 0, .int .u8 0])).run Try.prog u = .ok true u := fun u => by
    have := equalIn_ids u (oneId 1) (oneId 1) rfl rfl
    rw [beq_self_eq_true] at this
    exact this
  have HTX := Lib.hid (HI.out.text (oneId 171) w2 HT2.out rfl)
  have hsl : ∀ u : World, (Instr.sliceAt 9 (.string (bt (textL (oneId 171)))) none (some (.int .i64 2)) none).run Try.prog u = .ok (.string (bt [97, 98])) u := fun u => by
    have h := run_slice_to (bt (textL (oneId 171))) 2 (by rw [bt_size, textL_len]; decide) u
    rw [bt_list, text_awake] at h
    exact h
  obtain ⟨X, hX⟩ : ∃ X, X = bt (textL (oneId 171)) := ⟨_, rfl⟩
  rw [← hX] at HTX hsl
  have hab : (bt [97, 98]).toList = [97, 98] := ByteArray.toList_eq _
  clear hm2 hb2 hB2 HC hX
  go_wp2_with (first
    | ((with_reducible refine step_load_w (t := 23) (x := .tmp 12) (p := ?lpk1) (v := ?lvk1) ?lgk1 ?lok1 ?lxk1 ?lrk1 ?lhk1); (case lok1 => rfl); (case lgk1 => rfl); (case lxk1 => rfl); (case lrk1 => exact hld))
    | (go_at_call 10; refine HTX.out.mono ?_; rintro e w3 ⟨rfl, hb3⟩))
  go_ret
  exact ⟨rfl, HB2.out.trans (hb3.mono HB2.out.size)⟩

/-- an id laid in a block of its own -/
def laidId (w : World) (y : Id) : World := (w.alloc (.cells (bv zid).toArray 23)).setRow w.heap.size (bv y).toArray
theorem laidId_blk (w : World) (y : Id) : Blk (laidId w y) w.heap.size 23 (bv y).toArray := Blk.stored (Blk.new w _ (bv zid).toArray)
theorem laidId_below (w : World) (y : Id) : Below w.heap.size w (laidId w y) := below_setRow ((Below.refl _ _).alloc (Nat.le_refl _) _) (Nat.le_refl _) _
end Go.Proofs.Ytfcoecojjciphaa.ids
