/-
  Lists of records in memory; petrelref11.All.
-/
import Derived.Test.YtkbbeioednhefaaDoorRcn
import Derived.Test.YtkbbeioednhefaaDoorOwnk
import Derived.RegionTactic
import Derived.BigRegion
import Derived.BigQuiet
namespace Go.Proofs.YtkbbeioednhefaaDoor.rcd
open Go.RowKit Go.Proofs.YtkbbeioednhefaaDoor.mem Go.Proofs.YtkbbeioednhefaaDoor.sha Go.Proofs.YtkbbeioednhefaaDoor.opn Go.Proofs.YtkbbeioednhefaaDoor.rows Go.Proofs.YtkbbeioednhefaaDoor.ids

def rcc (r : Rc) : List Value := [.int .i64 r.k, .string (oct.tx r.body)]
theorem rcc_uni (r : Rc) : (rcc r).length = 2 ∧ ∀ u ∈ rcc r, u.oneCell' = true := ⟨rfl, fun u hu => by
  simp only [rcc, List.mem_cons, List.not_mem_nil, or_false] at hu
  rcases hu with rfl | rfl <;> rfl⟩
def OwnR (w : World) (F : Nat → Prop) (v : Value) (L : List Rc) : Prop := OwnK w F 39 2 v (L.map rcc)
/-- a list of records that reads -/
def RcV (w : World) (v : Value) (L : List Rc) : Prop := ∃ ad cap, v = .slice ad L.length cap ∧ ∀ i, i < L.length → ∃ b off, ad = some ⟨b, off, none⟩ ∧ b < w.heap.size ∧
  w.cell? ⟨b, off + i * 2, none⟩ = some (.int .i64 (L.getD i zrc).k) ∧ w.cell? ⟨b, off + i * 2 + 1, none⟩ = some (.string (oct.tx (L.getD i zrc).body))
theorem RcV.next {w w' : World} {v : Value} {L : List Rc} (h : RcV w v L) (hb : Below w.heap.size w w') : RcV w' v L := by
  obtain ⟨ad, cap, hv, hc⟩ := h
  refine ⟨ad, cap, hv, fun i hi => ?_⟩
  obtain ⟨b, off, e, hlt, h0, h1⟩ := hc i hi
  exact ⟨b, off, e, Nat.lt_of_lt_of_le hlt hb.size, (hb.cell (p := ⟨b, off + i * 2, none⟩) hlt).trans h0, (hb.cell (p := ⟨b, off + i * 2 + 1, none⟩) hlt).trans h1⟩
theorem getD_map (L : List Rc) {i : Nat} (hi : i < L.length) : (L.map rcc).getD i [] = rcc (L.getD i zrc) := by
  rw [List.getD_eq_getElem?_getD, List.getElem?_map, List.getD_eq_getElem?_getD, List.getElem?_eq_getElem hi]
  rfl
theorem OwnR.rcv {w : World} {F : Nat → Prop} {v : Value} {L : List Rc} (h : OwnR w F v L) : RcV w v L := by
  by_cases h0 : L.length = 0
  · obtain ⟨ad, cap, hv⟩ := OwnK.form h
    rw [List.length_map] at hv
    exact ⟨ad, cap, hv, fun i hi => by omega⟩
  · obtain ⟨g, cap, cur, rfl, hF, hg, _⟩ := OwnK.at_ h (by rw [List.length_map]; omega)
    refine ⟨_, cap, by rw [List.length_map], fun i hi => ⟨g, 0, rfl, (Array.getElem?_eq_some_iff.1 hg).1, ?_, ?_⟩⟩
    · have := OwnK.cell h (i := i) (j := 0) (by rw [List.length_map]; exact hi) (by decide) (by rw [getD_map L hi]; rfl)
      rwa [Nat.add_zero, ← Nat.zero_add (i * 2)] at this
    · have := OwnK.cell h (i := i) (j := 1) (by rw [List.length_map]; exact hi) (by decide) (by rw [getD_map L hi]; rfl)
      rwa [← Nat.zero_add (i * 2)] at this
theorem info_rc3 : (Tryd.prog.info? 39).map (fun i => (i.zero, i.size, i.bytes)) = some (some (.agg #[.int .i64 0, .string ⟨#[]⟩]), 2, 24) := by kernel_rfl
/-- 'append(v, r)', r in a box of its own -/
theorem push_rc {w0 w : World} {v : Value} {L : List Rc} (hO : OwnR w (w0.heap.size ≤ ·) v L) (hB : Below w0.heap.size w0 w) (r : Rc) (hL : L.length < 100000) :
    ∃ v' w', (Builtin.append_ #[29, 29] 29 #[v, .slice (some ⟨w.heap.size + 1, 0, none⟩) 1 1]).run Tryd.prog ((w.alloc (.cells #[.int .i64 r.k, .string (oct.tx r.body)] 39)).alloc (.cells #[.int .i64 r.k, .string (oct.tx r.body)] 39)) = .ok v' w' ∧
      OwnR w' (w0.heap.size ≤ ·) v' (L ++ [r]) ∧ Below w0.heap.size w0 w' := by
  obtain ⟨i0, hi, hz0, hz1, hz2⟩ := info_parts info_rc3
  have h1 : Below w.heap.size w (w.alloc (.cells #[.int .i64 r.k, .string (oct.tx r.body)] 39)) := (Below.refl _ _).alloc (Nat.le_refl _) _
  have h2 : Below w.heap.size w ((w.alloc (.cells #[.int .i64 r.k, .string (oct.tx r.body)] 39)).alloc (.cells #[.int .i64 r.k, .string (oct.tx r.body)] 39)) := h1.alloc h1.size _
  have hsz : (w.alloc (.cells #[.int .i64 r.k, .string (oct.tx r.body)] 39)).heap.size = w.heap.size + 1 := by simp
  have hb : Blk ((w.alloc (.cells #[.int .i64 r.k, .string (oct.tx r.body)] 39)).alloc (.cells #[.int .i64 r.k, .string (oct.tx r.body)] 39)) (w.heap.size + 1) 39 #[.int .i64 r.k, .string (oct.tx r.body)] := by
    rw [← hsz]; exact Blk.new _ _ _
  obtain ⟨v', w', hrun, hO', hT⟩ := run_append_k (c := 2) (by_ := 24) Tryd.underlying29 hi hz0 hz1 hz2 rfl (by decide) (OwnK.next hO h2) (rcc_uni r) (g := w.heap.size + 1) (cap := 1) (fun j u hu => by
    rw [hb.cell, ← hu]
    match j with
    | 0 => rfl
    | 1 => rfl
    | j + 2 => rfl) (by rw [List.length_map]; omega) (by decide) 29
  have hle := hB.size
  have hle2 := h2.size
  refine ⟨v', w', hrun, ?_, (hB.trans (h2.mono hle)).trans (hT.below fun j hj => hj.elim (fun h => hO.2.2 j h) (fun h => by omega))⟩
  have := hO'.place (G := (w0.heap.size ≤ ·)) fun j hj => (hO'.2.2 j hj).elim (fun h => hO.2.2 j h) (fun h => by show w0.heap.size ≤ j; omega)
  unfold OwnR
  rw [List.map_append]
  exact this
theorem results_t3 {fn : Func} {p q r : Tmp} (h : fn.results = #[.tmp p, .tmp q, .tmp r]) (tmps : Array Value) (w : World) :
    (results fn tmps).run Tryd.prog w = .ok (.tuple #[tmps.getD p undef, tmps.getD q undef, tmps.getD r undef]) w := by
  simp [results, h]
set_option maxHeartbeats 4000000 in
set_option maxRecDepth 100000 in
theorem all_ref (s : ByteArray) (hs : s.size ≤ 800000) (w : World) :
    Calls Tryd.prog 40 #[.string s] w fun e w' => ∃ v, e = .returned (.tuple #[v, .int .i64 ((allT s.data.toList).2.1 : Int), .int .i64 (allT s.data.toList).2.2]) ∧ OwnR w' (w.heap.size ≤ ·) v (allT s.data.toList).1 ∧ Below w.heap.size w w' := by
  have hl : s.data.toList.length = s.size := Array.length_toList
  obtain ⟨l, hle⟩ : ∃ l, l = s.data.toList := ⟨_, rfl⟩
  have HN := Lib.hid fun i u => next_ref s i (by omega) u
  rw [← hle] at hl HN ⊢
  have s0 : (0 : Int) ≤ (s.size : Int) := Int.natCast_nonneg _
  clear hle
  go_enter Tryd.func40, Tryd.ntmps40
  go_wp2_with fail
  go_loopg [5, 6] (s.size + 1) (fun gk s5 s6 wr => ∃ (L : List Rc) (i : Nat), s6 = .int .i64 i ∧ i ≤ s.size ∧ s.size - i < gk ∧ L.length * 9 ≤ i ∧ Hid (OwnR wr (w.heap.size ≤ ·) s5 L) ∧ Hid (Below w.heap.size w wr) ∧ Hid (allT l = (L ++ (allT (l.drop i)).1, i + (allT (l.drop i)).2.1, (allT (l.drop i)).2.2)))
  case atStart => exact ⟨[], 0, rfl, Nat.zero_le _, by omega, Nat.le_refl _, Lib.hid (OwnK.nil _ _ _ _), Lib.hid (Below.refl _ _), Lib.hid (by rw [List.drop_zero, List.nil_append, Nat.zero_add])⟩
  case round =>
    obtain ⟨L, i, rfl, hi, hgk, hL, HO, HB, HE⟩ := hrel
    have i0 : (0 : Int) ≤ (i : Int) := Int.natCast_nonneg _
    by_cases hlt : i < s.size
    · have hltz : (i : Int) < (s.size : Int) := by omega
      have hne : l.drop i ≠ [] := fun h => by have := congrArg List.length h; rw [List.length_drop, List.length_nil] at this; omega
      obtain ⟨r, hr⟩ : ∃ r, r = nextR l i := ⟨_, rfl⟩
      have HNN := Lib.hid fun u => HN.out (i : Int) u
      rw [← hr] at HNN
      simp only [nextV, recv] at HNN
      by_cases he : (firstR (l.drop i)).2.2 = 0
      · have hfs := first_size he
        obtain ⟨f, n, e, hf⟩ : ∃ f n e, firstR (l.drop i) = (f, n, e) := ⟨_, _, _, rfl⟩
        have ha := allT_next hne he
        rw [hf] at he hfs ha
        simp only at he hfs ha
        subst he
        rw [next_ok (by omega) (by rw [hl]; omega) (by rw [Int.toNat_natCast]; exact hf)] at hr
        subst hr
        obtain ⟨m, rfl⟩ : ∃ m : Nat, n = (m : Int) := ⟨n.toNat, by omega⟩
        rw [Int.toNat_natCast] at ha
        rw [List.length_drop] at hfs
        have HA := Lib.hid ha
        have hm1 : i + m ≤ s.size := by omega
        have hm9 : 9 ≤ m := by omega
        clear hf ha hfs hne
        go_upto_region 7 with (go_at_call 58; (with_reducible refine (HNN.out _).mono ?_); rintro e w1 ⟨rfl, hb1⟩; obtain ⟨v', w', hrun, hO', hB'⟩ := push_rc (OwnK.next HO.out hb1) (HB.out.trans (hb1.mono HB.out.size)) f (by omega); have HO1 := Lib.hid hO'; have HB1 := Lib.hid hB'; clear hO' hB' hb1)
        go_wp2_with ((with_reducible refine step_append (s := .tmp 26) (x := .tmp 28) (t := 29) (vs := ?as1) (vx := ?ax1) (v' := ?av1) (w' := ?aw1) ?ag1 ?ao1 ?ap1 ?aq1 ?ar1 ?ah1); (case ag1 => rfl); (case ao1 => rfl); (case ap1 => rfl); (case aq1 => rfl); (case ar1 => exact hrun))
        go_roundg (s.size - (i + m) + 1)
        case measure => omega
        case rel => exact ⟨L ++ [f], i + m, by go_num, hm1, by omega, by rw [List.length_append, List.length_singleton]; omega, HO1, HB1, Lib.hid (by
          rw [HE.out, HA.out, List.drop_drop]
          simp only [List.append_assoc, List.cons_append, List.nil_append, Nat.add_assoc])⟩
      · have ha := allT_none hne he
        obtain ⟨e, hee⟩ : ∃ e, e = (firstR (l.drop i)).2.2 := ⟨_, rfl⟩
        rw [← hee] at he ha
        have hrn : r = (zrc, 0, e) := by
          rw [hr]
          unfold nextR
          rw [if_neg (by omega), Int.toNat_natCast, if_pos (by rw [← hee]; exact he), ← hee]
        subst hrn
        simp only [zrc] at HNN
        have hd : (e == 0) = false := by simpa using he
        rw [ha] at HE
        clear hr ha hee he hne
        go_wp2_with (go_at_call 58; (with_reducible refine (HNN.out _).mono ?_); rintro e2 w1 ⟨rfl, hb1⟩)
        refine bodyPost_ret (results_t3 rfl _ _) rfl ?_
        have hb2 : Below w1.heap.size w1 (w1.alloc (.cells #[.int .i64 0, .string (oct.tx [])] 39)) := (Below.refl _ _).alloc (Nat.le_refl _) _
        refine ⟨u5, ?_, ?_, (HB.out.trans (hb1.mono HB.out.size)).trans (hb2.mono (Nat.le_trans HB.out.size hb1.size))⟩
        · rw [HE.out]; rfl
        · rw [HE.out, List.append_nil]
          exact OwnK.next (OwnK.next HO.out hb1) hb2
    · obtain rfl : i = s.size := by omega
      have hnil : l.drop s.size = [] := List.drop_of_length_le (by omega)
      rw [hnil, allT_nil] at HE
      clear hnil
      go_wp2_with fail
      refine bodyPost_ret (results_t3 rfl _ _) rfl ?_
      refine ⟨u5, ?_, ?_, HB.out⟩
      · rw [HE.out]; rfl
      · rw [HE.out, List.append_nil]
        exact HO.out
/-- a beginning of a list of records -/
theorem slice_rc {w : World} {F : Nat → Prop} {ad : Option Addr} {n cap : Nat} {G : List Rc} (h : OwnR w F (.slice ad n cap) G) (k : Nat) (hk : k ≤ G.length) (u : World) :
    (Instr.sliceAt 29 (.slice ad n cap) none (some (.int .i64 (k : Int))) none).run Tryd.prog u = .ok (.slice ad k cap) u ∧ OwnR w F (.slice ad k cap) (G.take k) := by
  obtain ⟨y, hy, _, hs, _⟩ := info_parts info_rc3
  refine ⟨?_, by unfold OwnR; rw [List.map_take]; exact OwnK.cut h k (by rw [List.length_map]; exact hk)⟩
  have h0 : (0 : Int) ≤ (k : Int) := Int.natCast_nonneg _
  rcases h.2.1.2 with ⟨hv, hn⟩ | ⟨g, cap', cur, hv, hb, hh, h1, h2, h3, h4⟩
  · cases hv
    rw [List.length_map] at hn
    obtain rfl : k = 0 := by omega
    simp only [Instr.sliceAt, Instr.slice, Instr.sliceBounds, Instr.sliceBound, asIntOf, sizeOf, typeInfo, Sem.run_bind, Sem.run_pure, Result.andThen_ok, run_underlying Tryd.underlying29]
    simp [hy, hs]
  · cases hv
    rw [List.length_map] at h1
    have hc : (k : Int) ≤ (cap : Int) := by omega
    simp only [Instr.sliceAt, Instr.slice, Instr.sliceBounds, Instr.sliceBound, asIntOf, sizeOf, typeInfo, Sem.run_bind, Sem.run_pure, Result.andThen_ok, run_underlying Tryd.underlying29]
    simp [hy, hs, hc, Addr.add]
end Go.Proofs.YtkbbeioednhefaaDoor.rcd
