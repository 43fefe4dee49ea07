/-
  The walk of IdentSame, by what ident's functions answer.
-/
import Derived.Test.YtfcoecojjciphaaIdtm
import Derived.Test.YtfcoecojjciphaaIdsr
namespace Go.Proofs.Ytfcoecojjciphaa.ids
open Go.RowKit Go.Proofs.Ytfcoecojjciphaa.mem Go.Proofs.Ytfcoecojjciphaa.sha Go.Proofs.Ytfcoecojjciphaa.strx

/-- a row of bytes that came in -/
def TurnsRd (w : World) (v : Value) (n : Nat) (t : Nat → Int) : Prop :=
  ∃ ad cap, v = .slice ad n cap ∧ n ≤ 1099511627776 * 1024 ∧ ∀ i, i < n → ∃ b off, ad = some ⟨b, off, none⟩ ∧ b < w.heap.size ∧ w.cell? ⟨b, off + i, none⟩ = some (.int .u8 (t i)) ∧ 0 ≤ t i ∧ t i ≤ 255
theorem TurnsRd.next {w w' : World} {v : Value} {n : Nat} {t : Nat → Int} (h : TurnsRd w v n t) (hb : Below w.heap.size w w') : TurnsRd w' v n t := by
  obtain ⟨ad, cap, hv, hn, h⟩ := h
  refine ⟨ad, cap, hv, hn, fun i hi => ?_⟩
  obtain ⟨b, off, e, hlt, hc, h0, h1⟩ := h i hi
  exact ⟨b, off, e, Nat.lt_of_lt_of_le hlt hb.size, (hb.cell (p := ⟨b, off + i, none⟩) hlt).trans hc, h0, h1⟩
theorem mem_getD (m : List Id) (j : Nat) (h : j < m.length) : m.getD j [] ∈ m := by
  rw [List.getD_eq_getElem?_getD, List.getElem?_eq_getElem h]; exact List.getElem_mem _
theorem swap_mem (m : List Id) (a b : Nat) (ha : a < m.length) (hb : b < m.length) (y : Id) : y ∈ ((m.set a (m.getD b [])).set b (m.getD a [])) ++ [m.getD a []] ↔ y ∈ m := by
  rw [List.mem_append, List.mem_singleton]
  constructor
  · rintro (h | rfl)
    · rcases List.mem_or_eq_of_mem_set h with h | rfl
      · rcases List.mem_or_eq_of_mem_set h with h | rfl
        · exact h
        · exact mem_getD m b hb
      · exact mem_getD m a ha
    · exact mem_getD m a ha
  · intro h
    obtain ⟨j, hj, rfl⟩ := List.getElem_of_mem h
    by_cases e : j = a
    · subst e
      right
      rw [List.getD_eq_getElem?_getD, List.getElem?_eq_getElem hj]; rfl
    · left
      by_cases e2 : j = b
      · subst e2
        refine List.mem_iff_getElem.2 ⟨a, by rw [List.length_set, List.length_set]; exact ha, ?_⟩
        rw [List.getElem_set, if_neg (fun h => e h), List.getElem_set, if_pos rfl, List.getD_eq_getElem?_getD, List.getElem?_eq_getElem hj]; rfl
      · refine List.mem_iff_getElem.2 ⟨j, by rw [List.length_set, List.length_set]; exact hj, ?_⟩
        rw [List.getElem_set, if_neg (fun h => e2 h.symm), List.getElem_set, if_neg (fun h => e h.symm)]
/-- what the second half of IdentSame keeps -/
structure SSt (T : World → Prop) (w0 : World) (v1 vs : Value) (L R : List Id) (w : World) : Prop where
  tt : T w
  below : Below w0.heap.size w0 w
  r1 : RdV w v1 L
  rs : RdV w vs R
  nx : ∀ {w w' : World}, T w → Below w.heap.size w w' → T w'
theorem SSt.next {T : World → Prop} {w0 w w' : World} {v1 vs : Value} {L R : List Id} (h : SSt T w0 v1 vs L R w) (hb : Below w.heap.size w w') : SSt T w0 v1 vs L R w' :=
  ⟨h.nx h.tt hb, h.below.trans (hb.mono h.below.size), h.r1.next hb, h.rs.next hb, h.nx⟩
theorem SSt.drew {T : World → Prop} {w0 w : World} {v1 vs : Value} {L R : List Id} (h : SSt T w0 v1 vs L R w) : SSt T w0 v1 vs L R w.drew := h.next (Below.refl _ _).drew

set_option maxHeartbeats 4000000 in
set_option maxRecDepth 100000 in
theorem same_walk {T : World → Prop} (hI : IdentA T) (L : List Id) (v1 v2 : Value) (nt : Nat) (t : Nat → Int) (w : World) (hT : T w) (h1 : RdV w v1 L) (h2 : TurnsRd w v2 nt t) :
    Calls Try.prog 5 #[v1, v2] w fun e w' => e = .returned (.bool true) ∧ Below w.heap.size w w' := by
  have HI := Lib.hid hI
  have HT := Lib.hid hT
  have H1 := Lib.hid h1
  have H2 := Lib.hid h2
  obtain ⟨ad1, cap1, rfl⟩ := h1.form
  obtain ⟨ad2, cap2, rfl, hnt, -⟩ := h2
  clear hI hT h1
  by_cases hl : 60 < L.length
  · have hI : (60 : Int) < (L.length : Int) := by omega
    clear hl
    go_enter Try.func5, Try.ntmps5
    go_wp2_with (go_at_call 14; refine (awake_any HI.out _ HT.out).mono ?_; rintro e w3 ⟨rfl, hb3⟩)
    go_ret
    exact ⟨rfl, hb3⟩
  have hI : (L.length : Int) ≤ 60 := by omega
  have hnw : New (w.heap.size ≤ ·) w := fun _ h => h
  have hA0 := OwnI.laid0 w (w.heap.size ≤ ·) hnw
  have hBa := (Below.refl w.heap.size w).alloc (Nat.le_refl _) (.cells #[] 23)
  obtain ⟨v0, w0, hrun0, hO0, ht0⟩ := run_append_rd hA0 (H1.out.next hBa) (by rw [List.length_nil]; omega) (hnw.alloc _) 33
  have hB0 : Below w.heap.size w w0 := hBa.trans (ht0.below fun j hj => by
    rcases hj with hj | hj
    · have hj' : w.heap.size = j := by simpa [Value.ownBlock] using hj
      omega
    · exact Nat.le_trans hBa.size hj)
  rw [List.nil_append] at hO0
  have HO0 := Lib.hid hO0
  have HB0 := Lib.hid hB0
  clear hA0 hBa hO0 ht0 hB0 hnw
  go_enter Try.func5, Try.ntmps5
  go_wp2_with ((with_reducible refine step_append (s := .tmp 16) (x := .tmp 17) (t := 33) (vs := ?asva) (vx := ?axva) (v' := ?avva) (w' := ?awva) ?agva ?aova ?apva ?aqva ?arva ?ahva); (case agva => rfl); (case aova => rfl); (case apva => rfl); (case aqva => rfl); (case arva => exact hrun0))
  go_loopw [5, 6] (fun vo i wr => ∃ (k : Nat) (m : List Id), k ≤ 60 ∧ k ≤ nt ∧ i = .int .i64 k ∧ m.length ≤ L.length + k ∧ (∀ y, y ∈ m ↔ y ∈ L) ∧ OwnI wr (w.heap.size ≤ ·) vo m ∧ Below w.heap.size w wr) (fun _ i _ => 60 - (intOf i).toNat)
  case atStart => exact ⟨0, L, by decide, Nat.zero_le _, rfl, Nat.le_refl _, fun _ => Iff.rfl, HO0.out, HB0.out⟩
  case round =>
    obtain ⟨k, m, hk, hkn, rfl, hml, hmem, hO, hB⟩ := hrel
    have HME := Lib.hid hmem
    have HO := Lib.hid hO
    have HB := Lib.hid hB
    have k0 : (0 : Int) ≤ (k : Int) := Int.natCast_nonneg _
    clear HO0 HB0 hmem hrun0
    by_cases hgo : k < nt ∧ 0 < m.length ∧ k < 60
    · obtain ⟨g1, g2, g3⟩ := hgo
      have i1 : (k : Int) < (nt : Int) := by omega
      have i2 : (0 : Int) < (m.length : Int) := by omega
      have i3 : (k : Int) < 60 := by omega
      obtain ⟨ad3, cap3, hv3, hn3, hcel⟩ := H2.out.next HB.out
      cases hv3
      obtain ⟨b2, off2, rfl, hb2, hc2, t0, t1⟩ := hcel k g1
      obtain ⟨tk, htk⟩ : ∃ z, z = t k := ⟨_, rfl⟩
      rw [← htk] at hc2 t0 t1
      clear hcel htk
      obtain ⟨a, haI⟩ : ∃ f : Nat, tk % (m.length : Int) = (f : Int) := ⟨(tk % (m.length : Int)).toNat, (Int.toNat_of_nonneg (Int.emod_nonneg _ (by omega))).symm⟩
      have ha2 : (a : Int) < (m.length : Int) := by rw [← haI]; exact Int.emod_lt_of_pos _ (by omega)
      have hat : tk.tmod (m.length : Int) = (a : Int) := by rw [Int.tmod_eq_emod_of_nonneg t0]; exact haI
      obtain ⟨c, hcI⟩ : ∃ f : Nat, (k : Int) % (m.length : Int) = (f : Int) := ⟨((k : Int) % (m.length : Int)).toNat, (Int.toNat_of_nonneg (Int.emod_nonneg _ (by omega))).symm⟩
      have hc3 : (c : Int) < (m.length : Int) := by rw [← hcI]; exact Int.emod_lt_of_pos _ (by omega)
      have hct : (k : Int).tmod (m.length : Int) = (c : Int) := by rw [Int.tmod_eq_emod_of_nonneg k0]; exact hcI
      have a0 : (0 : Int) ≤ (a : Int) := Int.natCast_nonneg _
      have c0 : (0 : Int) ≤ (c : Int) := Int.natCast_nonneg _
      have hz : ((m.length : Int) == 0) = false := beq_eq_false_iff_ne.2 (by omega)
      have hal : a < m.length := by omega
      have hcl : c < m.length := by omega
      have hx1 := hO.1.get hal
      have hx2 := hO.1.get hcl
      have HSW := Lib.hid (swap_mem m a c hal hcl)
      obtain ⟨X, hX⟩ : ∃ y, y = m.getD a [] := ⟨_, rfl⟩
      obtain ⟨Y, hY⟩ : ∃ y, y = m.getD c [] := ⟨_, rfl⟩
      rw [← hX, ← hY] at HSW
      rw [← hX] at hx1
      rw [← hY] at hx2
      obtain ⟨u1, hu1⟩ : ∃ u, u = laidId wr X := ⟨_, rfl⟩
      obtain ⟨G, hG⟩ : ∃ u, u = wr.heap.size := ⟨_, rfl⟩
      have hbl1 : Blk u1 G 23 (bv X).toArray := by rw [hu1, hG]; exact laidId_blk wr X
      have hbe1 : Below wr.heap.size wr u1 := by rw [hu1]; exact laidId_below wr X
      have hO1 := hO.below hbe1
      obtain ⟨g, cc, u2, rfl, hFg, hst1, hO2, ht2⟩ := hO1.store hal hx2
      have hgG : g < G := by rw [hG]; exact hO.lt (k := g) rfl
      have hldX : (Instr.loadAt 23 (.pointer (some ⟨g, a * 32, none⟩))).run Try.prog wr = .ok (.agg (bv X).toArray) wr := by
        have := (hO.rdv (by omega)).1.load_y hal hX.symm
        rwa [Nat.zero_add] at this
      have hldY : (Instr.loadAt 23 (.pointer (some ⟨g, c * 32, none⟩))).run Try.prog u1 = .ok (.agg (bv Y).toArray) u1 := by
        have := (hO1.rdv (by omega)).1.load_y hcl hY.symm
        rwa [Nat.zero_add] at this
      have hbl2 := hbl1.turn ht2 (show ¬ G = g by omega)
      have hldB := box_load hbl2 hx1 0
      obtain ⟨g', cc', u3, hv', hFg', hst2, hO3, ht3⟩ := hO2.store (i := c) (by rw [List.length_set]; exact hcl) hx1
      obtain ⟨rfl, rfl⟩ : g = g' ∧ cc = cc' := by
        injection hv' with e1 e2 e3
        injection e1 with e1
        injection e1 with e1
        exact ⟨e1, e3⟩
      clear hv' hFg'
      have hbl3 := hbl2.turn ht3 (show ¬ G = g by omega)
      have hldC := box_load hbl3 hx1 0
      have hB3 : Below w.heap.size w u3 := ((HB.out.trans (hbe1.mono HB.out.size)).trans (ht2.below fun j hj => by rw [hj]; exact hFg)).trans (ht3.below fun j hj => by rw [hj]; exact hFg)
      have hnw3 : New (w.heap.size ≤ ·) u3 := fun _ h => Nat.le_trans hB3.size h
      have hBl := (Below.refl u3.heap.size u3).alloc (Nat.le_refl _) (.cells (bv X).toArray 23)
      obtain ⟨v4, u4, hrun4, hO4, ht4⟩ := run_append_rd (hO3.below hBl) (by have := RdV.laid u3 [X] (okIds.one hx1) (by simp); rw [fl_one] at this; exact this) (by simp only [List.length_set, List.length_cons, List.length_nil]; omega) (hnw3.alloc _) 33
      have hB4 : Below w.heap.size w u4 := (hB3.trans (hBl.mono hB3.size)).trans (ht4.below fun j hj => by
        rcases hj with hj | hj
        · exact hO3.2.2 j hj
        · exact Nat.le_trans (Nat.le_trans hB3.size hBl.size) hj)
      have HO4 := Lib.hid hO4
      have HB4 := Lib.hid hB4
      have hst1' : (Instr.storeAt 23 (.pointer (some ⟨g, a * 32, none⟩)) (.agg (bv Y).toArray)).run Try.prog u1 = .ok () u2 := hst1
      have hldB' : (Instr.loadAt 23 (.pointer (some ⟨G, 0, none⟩))).run Try.prog u2 = .ok (.agg (bv X).toArray) u2 := hldB
      have hldC' : (Instr.loadAt 23 (.pointer (some ⟨G, 0, none⟩))).run Try.prog u3 = .ok (.agg (bv X).toArray) u3 := hldC
      have HU1 := Lib.hid hu1
      have HGG := Lib.hid hG
      clear hbl1 hbe1 hO1 hO2 hO3 hO4 hB4 hB3 hBl ht4 hbl2 hbl3 ht2 ht3 hnw3 hldB hldC hst1 hX hY hO hB hu1 hG hgG haI hcI
      go_upto_region 10 with (first
        | ((with_reducible refine step_load (t := 23) (x := .tmp 48) (p := ?lpvb) (v := ?lvvb) ?lgvb ?lovb ?lxvb ?lrvb ?lhvb); (case lgvb => rfl); (case lovb => rfl); (case lxvb => rfl); (case lrvb => exact hldX))
        | ((with_reducible refine step_store_id (x := .tmp 9) (y := .tmp 49) (g := ?srvc) (z := ?szvc) (y' := ?syvc) ?sgvc ?sovc ?savc ?sbvc ?scvc ?sdvc ?sevc ?shvc); (case sgvc => rfl); (case sovc => rfl); (case savc => rfl); (case sbvc => rfl); (case scvc => exact Blk.new wr _ (bv zid).toArray); (case sdvc => exact zid_len); (case sevc => exact hx1)))
      refine wp_at (show _ = laidId wr X from rfl) ?_
      rw [← HU1.out, ← HGG.out]
      clear HU1 HGG hldX
      go_wp2_with (first
        | ((with_reducible refine step_load (t := 23) (x := .tmp 54) (p := ?lpvd) (v := ?lvvd) ?lgvd ?lovd ?lxvd ?lrvd ?lhvd); (case lgvd => rfl); (case lovd => rfl); (case lxvd => rfl); (case lrvd => exact hldY))
        | ((with_reducible refine step_store_at (x := .tmp 56) (y := .tmp 55) (p := ?wpve) (v := ?wvve) (w' := ?wwve) ?wgve ?wove ?wxve ?wyve ?wrve ?whve); (case wgve => rfl); (case wove => rfl); (case wxve => rfl); (case wyve => rfl); (case wrve => exact hst1'))
        | ((with_reducible refine step_load (t := 23) (x := .tmp 9) (p := ?lpvf) (v := ?lvvf) ?lgvf ?lovf ?lxvf ?lrvf ?lhvf); (case lgvf => rfl); (case lovf => rfl); (case lxvf => rfl); (case lrvf => exact hldB'))
        | ((with_reducible refine step_store_at (x := .tmp 60) (y := .tmp 59) (p := ?wpvg) (v := ?wvvg) (w' := ?wwvg) ?wgvg ?wovg ?wxvg ?wyvg ?wrvg ?whvg); (case wgvg => rfl); (case wovg => rfl); (case wxvg => rfl); (case wyvg => rfl); (case wrvg => exact hst2))
        | ((with_reducible refine step_load (t := 23) (x := .tmp 9) (p := ?lpvh) (v := ?lvvh) ?lgvh ?lovh ?lxvh ?lrvh ?lhvh); (case lgvh => rfl); (case lovh => rfl); (case lxvh => rfl); (case lrvh => exact hldC'))
        | ((with_reducible refine step_build1 (x := .tmp 62) (y := ?byvi) ?bgvi ?bovi ?bxvi ?blvi ?bhvi); (case bgvi => rfl); (case bovi => rfl); (case bxvi => rfl); (case blvi => exact hx1))
        | ((with_reducible refine step_append (s := .tmp 61) (x := .tmp 63) (t := 33) (vs := ?asvj) (vx := ?axvj) (v' := ?avvj) (w' := ?awvj) ?agvj ?aovj ?apvj ?aqvj ?arvj ?ahvj); (case agvj => rfl); (case aovj => rfl); (case apvj => rfl); (case aqvj => rfl); (case arvj => exact hrun4)))
      go_roundw
      case rel =>
        refine ⟨k + 1, _, by omega, g1, by push_cast; rfl, ?_, fun y => ?_, HO4.out, HB4.out⟩
        · simp only [List.length_append, List.length_set, List.length_cons, List.length_nil]; omega
        · rw [HSW.out y]; exact HME.out y
      case measure => simp [intOf]; omega
    · have hR := (hO.rdv (by omega)).1
      obtain ⟨ad9, cap9, rfl⟩ := hR.form
      have HSET := Lib.hid (HI.out.set m _ wr (HI.out.next HT.out hB) hR (by omega))
      have HEQ := Lib.hid (setL_same L m (fun y => (HME.out y).symm))
      have HSRT := Lib.hid (setL_sorted m)
      have HRI := Lib.hid (setL_idem m)
      have hrl := setL_len m
      obtain ⟨R, hRR⟩ : ∃ R, R = setL m := ⟨_, rfl⟩
      rw [← hRR] at HSET HEQ HSRT HRI hrl
      clear hR hRR hO hB HO HME H2
      have HEX : Hid ((nt : Int) ≤ (k : Int) ∨ ((k : Int) < (nt : Int) ∧ (m.length : Int) ≤ 0) ∨ ((k : Int) < (nt : Int) ∧ (0 : Int) < (m.length : Int) ∧ (60 : Int) ≤ (k : Int))) := Lib.hid (by omega)
      clear hgo
      rcases HEX.out with e1 | ⟨e1, e2⟩ | ⟨e1, e2, e3⟩
      · clear HEX
        go_wp2_with (first
          | (go_at_call 18; with_reducible refine HSET.out.mono ?_; rintro e w5 ⟨vs, rfl, hms, hb5⟩))
        have hst0 : SSt T w (.slice ad1 L.length cap1) vs L R w5 := ⟨HI.out.next HT.out (HB.out.trans (hb5.mono HB.out.size)), HB.out.trans (hb5.mono HB.out.size), H1.out.next (HB.out.trans (hb5.mono HB.out.size)), hms.rd, HI.out.next⟩
        have HST0 := Lib.hid hst0
        obtain ⟨ad, cap, rfl⟩ := hms.rd.form
        have HROK := Lib.hid hms.rd.ok
        clear hst0 hms hb5 HB HSET
        go_loopw [11] (fun i wx => ∃ j : Nat, (j + 1 ≤ R.length ∨ j = 0) ∧ i = .int .i64 ((j : Int) + 1) ∧ SSt T w (.slice ad1 L.length cap1) (.slice ad R.length cap) L R wx) (fun i _ => R.length - (intOf i).toNat)
        case atStart => exact ⟨0, .inr rfl, rfl, HST0.out⟩
        case round =>
          obtain ⟨j, hj, rfl, hS⟩ := hrel
          have HS := Lib.hid hS
          have j0 : (0 : Int) ≤ (j : Int) := Int.natCast_nonneg _
          clear hS HST0
          by_cases hlt : j + 1 < R.length
          · have jI : (j : Int) + 1 < (R.length : Int) := by omega
            have hlt1 : j < R.length := by omega
            obtain ⟨b, off, rfl, -, -, -⟩ := HS.out.rs.load hlt1
            have hnx := sorted_next R HSRT.out (j + 1) (by omega) hlt
            rw [Nat.add_sub_cancel] at hnx
            have hy1 := HROK.out.get hlt1
            have hy2 := HROK.out.get hlt
            obtain ⟨y1, hY1⟩ : ∃ y, y = R.getD j [] := ⟨_, rfl⟩
            obtain ⟨y2, hY2⟩ : ∃ y, y = R.getD (j + 1) [] := ⟨_, rfl⟩
            rw [← hY1] at hnx hy1
            rw [← hY2] at hnx hy2
            have hj1 : (0 : Int) ≤ (j : Int) + 1 := by omega
            have hwj : IntKind.i64.wrap (j : Int) = (j : Int) := by rw [IntKind.wrap_i64]; omega
            have HY1 := Lib.hid hY1.symm
            have HY2 := Lib.hid hY2.symm
            clear hY1 hY2
            go_wp2_with fail
            refine wp_region_held_drew (S := SSt T w (.slice ad1 L.length cap1) (.slice (some ⟨b, off, none⟩) R.length cap) L R) (by kernel_rfl) ?_ (fun hHeld => ?_)
            · exact HS.out.drew
            refine' wpAnyH_take (i := 0) ?hitaw0 (by kernel_rfl) (by kernel_rfl) (by kernel_rfl) ?hqtaw0 (Or.inl ⟨?hwtaw0, ?hytaw0⟩) (by assumption) ?hrtaw0
            case hitaw0 => (simp only [List.getElem?_toArray, List.getElem?_cons_succ, List.getElem?_cons_zero]; rfl)
            case hqtaw0 => exact fun _ _ _ h => h
            case hwtaw0 => rfl
            case hytaw0 => (intro w0 hSw; (try dsimp only at hSw); go_simp; try with_reducible rfl)
            (try simp only [Act.put, List.setIfInBounds_toArray, List.set_cons_zero, List.set_cons_succ])
            refine' wpAnyH_take (i := 1) ?hitaw1 (by kernel_rfl) (by kernel_rfl) (by kernel_rfl) ?hqtaw1 (Or.inl ⟨?hwtaw1, ?hytaw1⟩) (by assumption) ?hrtaw1
            case hitaw1 => (simp only [List.getElem?_toArray, List.getElem?_cons_succ, List.getElem?_cons_zero]; rfl)
            case hqtaw1 => exact fun _ _ _ h => h
            case hwtaw1 => rfl
            case hytaw1 => (intro w0 hSw; (try dsimp only at hSw); go_simp; try with_reducible rfl)
            (try simp only [Act.put, List.setIfInBounds_toArray, List.set_cons_zero, List.set_cons_succ])
            refine' wpAnyH_take (i := 2) ?hitaw2 (by kernel_rfl) (by kernel_rfl) (by kernel_rfl) ?hqtaw2 (Or.inl ⟨?hwtaw2, ?hytaw2⟩) (by assumption) ?hrtaw2
            case hitaw2 => (simp only [List.getElem?_toArray, List.getElem?_cons_succ, List.getElem?_cons_zero]; rfl)
            case hqtaw2 => exact fun _ _ _ h => h
            case hwtaw2 => rfl
            case hytaw2 => (intro w0 hSw; (try dsimp only at hSw); go_simp; try with_reducible rfl)
            (try simp only [Act.put, List.setIfInBounds_toArray, List.set_cons_zero, List.set_cons_succ])
            refine' wpAnyH_take (i := 3) ?hitaw3 (by kernel_rfl) (by kernel_rfl) (by kernel_rfl) ?hqtaw3 (Or.inl ⟨?hwtaw3, ?hytaw3⟩) (by assumption) ?hrtaw3
            case hitaw3 => (simp only [List.getElem?_toArray, List.getElem?_cons_succ, List.getElem?_cons_zero]; rfl)
            case hqtaw3 => exact fun _ _ _ h => h
            case hwtaw3 => rfl
            case hytaw3 => (intro w0 hSw; (try dsimp only at hSw); go_simp; try with_reducible rfl)
            (try simp only [Act.put, List.setIfInBounds_toArray, List.set_cons_zero, List.set_cons_succ])
            refine' wpAnyH_take (i := 4) ?hitaw4 (by kernel_rfl) (by kernel_rfl) (by kernel_rfl) ?hqtaw4 (Or.inl ⟨?hwtaw4, ?hytaw4⟩) (by assumption) ?hrtaw4
            case hitaw4 => (simp only [List.getElem?_toArray, List.getElem?_cons_succ, List.getElem?_cons_zero]; rfl)
            case hqtaw4 => exact fun _ _ _ h => h
            case hwtaw4 => rfl
            case hytaw4 => exact fun w0 hSw => run_exec_load rfl rfl (hSw.rs.load_y hlt1 HY1.out)
            (try simp only [Act.put, List.setIfInBounds_toArray, List.set_cons_zero, List.set_cons_succ])
            refine' wpAnyH_take (i := 5) ?hitaw5 (by kernel_rfl) (by kernel_rfl) (by kernel_rfl) ?hqtaw5 (Or.inl ⟨?hwtaw5, ?hytaw5⟩) (by assumption) ?hrtaw5
            case hitaw5 => (simp only [List.getElem?_toArray, List.getElem?_cons_succ, List.getElem?_cons_zero]; rfl)
            case hqtaw5 => exact fun _ _ _ h => h
            case hwtaw5 => rfl
            case hytaw5 => (intro w0 hSw; (try dsimp only at hSw); go_simp; try with_reducible rfl)
            (try simp only [Act.put, List.setIfInBounds_toArray, List.set_cons_zero, List.set_cons_succ])
            refine' wpAnyH_take (i := 6) ?hitaw6 (by kernel_rfl) (by kernel_rfl) (by kernel_rfl) ?hqtaw6 (Or.inl ⟨?hwtaw6, ?hytaw6⟩) (by assumption) ?hrtaw6
            case hitaw6 => (simp only [List.getElem?_toArray, List.getElem?_cons_succ, List.getElem?_cons_zero]; rfl)
            case hqtaw6 => exact fun _ _ _ h => h
            case hwtaw6 => rfl
            case hytaw6 => (intro w0 hSw; (try dsimp only at hSw); go_simp; try with_reducible rfl)
            (try simp only [Act.put, List.setIfInBounds_toArray, List.set_cons_zero, List.set_cons_succ])
            refine' wpAnyH_take (i := 7) ?hitaw7 (by kernel_rfl) (by kernel_rfl) (by kernel_rfl) ?hqtaw7 (Or.inl ⟨?hwtaw7, ?hytaw7⟩) (by assumption) ?hrtaw7
            case hitaw7 => (simp only [List.getElem?_toArray, List.getElem?_cons_succ, List.getElem?_cons_zero]; rfl)
            case hqtaw7 => exact fun _ _ _ h => h
            case hwtaw7 => rfl
            case hytaw7 => (intro w0 hSw; (try dsimp only at hSw); go_simp; try with_reducible rfl)
            (try simp only [Act.put, List.setIfInBounds_toArray, List.set_cons_zero, List.set_cons_succ])
            refine' wpAnyH_take (i := 8) ?hitaw8 (by kernel_rfl) (by kernel_rfl) (by kernel_rfl) ?hqtaw8 (Or.inl ⟨?hwtaw8, ?hytaw8⟩) (by assumption) ?hrtaw8
            case hitaw8 => (simp only [List.getElem?_toArray, List.getElem?_cons_succ, List.getElem?_cons_zero]; rfl)
            case hqtaw8 => exact fun _ _ _ h => h
            case hwtaw8 => rfl
            case hytaw8 => exact fun w0 hSw => run_exec_load rfl rfl (hSw.rs.load_y hlt HY2.out)
            (try simp only [Act.put, List.setIfInBounds_toArray, List.set_cons_zero, List.set_cons_succ])
            refine wpAnyH_ready (rs := [9]) (by kernel_rfl) (by simp) ?_
            refine' AllReadyH.cons ?hitaw9 (fun K hK => ?hrtaw9) AllReadyH.nil
            case hitaw9 => (simp only [List.getElem?_toArray, List.getElem?_cons_succ, List.getElem?_cons_zero]; rfl)
            go_simp
            refine (HI.out.compare y1 y2 _ hHeld.tt hy1 hy2).mono ?_; rintro e wA1 ⟨rfl, hbwA1⟩
            refine hK.out _ _ ?_ (fun hHeld => ?_)
            · exact hHeld.next hbwA1
            clear hK K
            (try simp only [Act.put, List.setIfInBounds_toArray, List.set_cons_zero, List.set_cons_succ])
            refine' wpAnyH_take (i := 10) ?hitaw10 (by kernel_rfl) (by kernel_rfl) (by kernel_rfl) ?hqtaw10 (Or.inl ⟨?hwtaw10, ?hytaw10⟩) (by assumption) ?hrtaw10
            case hitaw10 => (simp only [List.getElem?_toArray, List.getElem?_cons_succ, List.getElem?_cons_zero]; rfl)
            case hqtaw10 => exact fun _ _ _ h => h
            case hwtaw10 => rfl
            case hytaw10 => (intro w0 hSw; (try dsimp only at hSw); go_simp; try with_reducible rfl)
            (try simp only [Act.put, List.setIfInBounds_toArray, List.set_cons_zero, List.set_cons_succ])
            refine wpAnyH_done (by kernel_rfl) ?_ _
            go_wp2_with fail
            go_roundw
            case rel => exact ⟨j + 1, .inl (by omega), by push_cast; rfl, hHeld⟩
            case measure => simp [intOf]; omega
          · have jI : (R.length : Int) ≤ (j : Int) + 1 := by omega
            have hrr : (R == setL R) = true := by rw [HRI.out]; exact beq_self_eq_true R
            have HIS := Lib.hid hrr
            have hLl : L.length ≤ 60 := by omega
            have hRl : R.length ≤ 1000 := by omega
            clear hrr hj hlt
            go_wp2_with (first
              | (go_at_call 14; refine (awake_any HI.out _ H8.tt).mono ?_; rintro e x9 ⟨rfl, hb9⟩)
              | (go_at_call 19; with_reducible refine (HI.out.is R _ _ H7.tt H7.rs hRl).mono ?_; rintro e x8 ⟨rfl, hb8⟩; have H8 := H7.next hb8; rw [HIS.out])
              | (go_at_call 17; with_reducible refine (rsame_eq (hm6.rd.to HEQ.out) H6.rs).mono ?_; rintro e x7 ⟨rfl, hb7⟩; have H7 := H6.next hb7)
              | (go_at_call 18; with_reducible refine (HI.out.set L _ _ HS.out.tt HS.out.r1 (by omega)).mono ?_; rintro e x6 ⟨v6, rfl, hm6, hb6⟩; have H6 := HS.out.next hb6))
            go_ret
            exact ⟨rfl, H8.below.trans (hb9.mono H8.below.size)⟩
      · clear HEX
        go_wp2_with (first
          | (go_at_call 18; with_reducible refine HSET.out.mono ?_; rintro e w5 ⟨vs, rfl, hms, hb5⟩))
        have hst0 : SSt T w (.slice ad1 L.length cap1) vs L R w5 := ⟨HI.out.next HT.out (HB.out.trans (hb5.mono HB.out.size)), HB.out.trans (hb5.mono HB.out.size), H1.out.next (HB.out.trans (hb5.mono HB.out.size)), hms.rd, HI.out.next⟩
        have HST0 := Lib.hid hst0
        obtain ⟨ad, cap, rfl⟩ := hms.rd.form
        have HROK := Lib.hid hms.rd.ok
        clear hst0 hms hb5 HB HSET
        go_loopw [11] (fun i wx => ∃ j : Nat, (j + 1 ≤ R.length ∨ j = 0) ∧ i = .int .i64 ((j : Int) + 1) ∧ SSt T w (.slice ad1 L.length cap1) (.slice ad R.length cap) L R wx) (fun i _ => R.length - (intOf i).toNat)
        case atStart => exact ⟨0, .inr rfl, rfl, HST0.out⟩
        case round =>
          obtain ⟨j, hj, rfl, hS⟩ := hrel
          have HS := Lib.hid hS
          have j0 : (0 : Int) ≤ (j : Int) := Int.natCast_nonneg _
          clear hS HST0
          by_cases hlt : j + 1 < R.length
          · have jI : (j : Int) + 1 < (R.length : Int) := by omega
            have hlt1 : j < R.length := by omega
            obtain ⟨b, off, rfl, -, -, -⟩ := HS.out.rs.load hlt1
            have hnx := sorted_next R HSRT.out (j + 1) (by omega) hlt
            rw [Nat.add_sub_cancel] at hnx
            have hy1 := HROK.out.get hlt1
            have hy2 := HROK.out.get hlt
            obtain ⟨y1, hY1⟩ : ∃ y, y = R.getD j [] := ⟨_, rfl⟩
            obtain ⟨y2, hY2⟩ : ∃ y, y = R.getD (j + 1) [] := ⟨_, rfl⟩
            rw [← hY1] at hnx hy1
            rw [← hY2] at hnx hy2
            have hj1 : (0 : Int) ≤ (j : Int) + 1 := by omega
            have hwj : IntKind.i64.wrap (j : Int) = (j : Int) := by rw [IntKind.wrap_i64]; omega
            have HY1 := Lib.hid hY1.symm
            have HY2 := Lib.hid hY2.symm
            clear hY1 hY2
            go_wp2_with fail
            refine wp_region_held_drew (S := SSt T w (.slice ad1 L.length cap1) (.slice (some ⟨b, off, none⟩) R.length cap) L R) (by kernel_rfl) ?_ (fun hHeld => ?_)
            · exact HS.out.drew
            refine' wpAnyH_take (i := 0) ?hitbw0 (by kernel_rfl) (by kernel_rfl) (by kernel_rfl) ?hqtbw0 (Or.inl ⟨?hwtbw0, ?hytbw0⟩) (by assumption) ?hrtbw0
            case hitbw0 => (simp only [List.getElem?_toArray, List.getElem?_cons_succ, List.getElem?_cons_zero]; rfl)
            case hqtbw0 => exact fun _ _ _ h => h
            case hwtbw0 => rfl
            case hytbw0 => (intro w0 hSw; (try dsimp only at hSw); go_simp; try with_reducible rfl)
            (try simp only [Act.put, List.setIfInBounds_toArray, List.set_cons_zero, List.set_cons_succ])
            refine' wpAnyH_take (i := 1) ?hitbw1 (by kernel_rfl) (by kernel_rfl) (by kernel_rfl) ?hqtbw1 (Or.inl ⟨?hwtbw1, ?hytbw1⟩) (by assumption) ?hrtbw1
            case hitbw1 => (simp only [List.getElem?_toArray, List.getElem?_cons_succ, List.getElem?_cons_zero]; rfl)
            case hqtbw1 => exact fun _ _ _ h => h
            case hwtbw1 => rfl
            case hytbw1 => (intro w0 hSw; (try dsimp only at hSw); go_simp; try with_reducible rfl)
            (try simp only [Act.put, List.setIfInBounds_toArray, List.set_cons_zero, List.set_cons_succ])
            refine' wpAnyH_take (i := 2) ?hitbw2 (by kernel_rfl) (by kernel_rfl) (by kernel_rfl) ?hqtbw2 (Or.inl ⟨?hwtbw2, ?hytbw2⟩) (by assumption) ?hrtbw2
            case hitbw2 => (simp only [List.getElem?_toArray, List.getElem?_cons_succ, List.getElem?_cons_zero]; rfl)
            case hqtbw2 => exact fun _ _ _ h => h
            case hwtbw2 => rfl
            case hytbw2 => (intro w0 hSw; (try dsimp only at hSw); go_simp; try with_reducible rfl)
            (try simp only [Act.put, List.setIfInBounds_toArray, List.set_cons_zero, List.set_cons_succ])
            refine' wpAnyH_take (i := 3) ?hitbw3 (by kernel_rfl) (by kernel_rfl) (by kernel_rfl) ?hqtbw3 (Or.inl ⟨?hwtbw3, ?hytbw3⟩) (by assumption) ?hrtbw3
            case hitbw3 => (simp only [List.getElem?_toArray, List.getElem?_cons_succ, List.getElem?_cons_zero]; rfl)
            case hqtbw3 => exact fun _ _ _ h => h
            case hwtbw3 => rfl
            case hytbw3 => (intro w0 hSw; (try dsimp only at hSw); go_simp; try with_reducible rfl)
            (try simp only [Act.put, List.setIfInBounds_toArray, List.set_cons_zero, List.set_cons_succ])
            refine' wpAnyH_take (i := 4) ?hitbw4 (by kernel_rfl) (by kernel_rfl) (by kernel_rfl) ?hqtbw4 (Or.inl ⟨?hwtbw4, ?hytbw4⟩) (by assumption) ?hrtbw4
            case hitbw4 => (simp only [List.getElem?_toArray, List.getElem?_cons_succ, List.getElem?_cons_zero]; rfl)
            case hqtbw4 => exact fun _ _ _ h => h
            case hwtbw4 => rfl
            case hytbw4 => exact fun w0 hSw => run_exec_load rfl rfl (hSw.rs.load_y hlt1 HY1.out)
            (try simp only [Act.put, List.setIfInBounds_toArray, List.set_cons_zero, List.set_cons_succ])
            refine' wpAnyH_take (i := 5) ?hitbw5 (by kernel_rfl) (by kernel_rfl) (by kernel_rfl) ?hqtbw5 (Or.inl ⟨?hwtbw5, ?hytbw5⟩) (by assumption) ?hrtbw5
            case hitbw5 => (simp only [List.getElem?_toArray, List.getElem?_cons_succ, List.getElem?_cons_zero]; rfl)
            case hqtbw5 => exact fun _ _ _ h => h
            case hwtbw5 => rfl
            case hytbw5 => (intro w0 hSw; (try dsimp only at hSw); go_simp; try with_reducible rfl)
            (try simp only [Act.put, List.setIfInBounds_toArray, List.set_cons_zero, List.set_cons_succ])
            refine' wpAnyH_take (i := 6) ?hitbw6 (by kernel_rfl) (by kernel_rfl) (by kernel_rfl) ?hqtbw6 (Or.inl ⟨?hwtbw6, ?hytbw6⟩) (by assumption) ?hrtbw6
            case hitbw6 => (simp only [List.getElem?_toArray, List.getElem?_cons_succ, List.getElem?_cons_zero]; rfl)
            case hqtbw6 => exact fun _ _ _ h => h
            case hwtbw6 => rfl
            case hytbw6 => (intro w0 hSw; (try dsimp only at hSw); go_simp; try with_reducible rfl)
            (try simp only [Act.put, List.setIfInBounds_toArray, List.set_cons_zero, List.set_cons_succ])
            refine' wpAnyH_take (i := 7) ?hitbw7 (by kernel_rfl) (by kernel_rfl) (by kernel_rfl) ?hqtbw7 (Or.inl ⟨?hwtbw7, ?hytbw7⟩) (by assumption) ?hrtbw7
            case hitbw7 => (simp only [List.getElem?_toArray, List.getElem?_cons_succ, List.getElem?_cons_zero]; rfl)
            case hqtbw7 => exact fun _ _ _ h => h
            case hwtbw7 => rfl
            case hytbw7 => (intro w0 hSw; (try dsimp only at hSw); go_simp; try with_reducible rfl)
            (try simp only [Act.put, List.setIfInBounds_toArray, List.set_cons_zero, List.set_cons_succ])
            refine' wpAnyH_take (i := 8) ?hitbw8 (by kernel_rfl) (by kernel_rfl) (by kernel_rfl) ?hqtbw8 (Or.inl ⟨?hwtbw8, ?hytbw8⟩) (by assumption) ?hrtbw8
            case hitbw8 => (simp only [List.getElem?_toArray, List.getElem?_cons_succ, List.getElem?_cons_zero]; rfl)
            case hqtbw8 => exact fun _ _ _ h => h
            case hwtbw8 => rfl
            case hytbw8 => exact fun w0 hSw => run_exec_load rfl rfl (hSw.rs.load_y hlt HY2.out)
            (try simp only [Act.put, List.setIfInBounds_toArray, List.set_cons_zero, List.set_cons_succ])
            refine wpAnyH_ready (rs := [9]) (by kernel_rfl) (by simp) ?_
            refine' AllReadyH.cons ?hitbw9 (fun K hK => ?hrtbw9) AllReadyH.nil
            case hitbw9 => (simp only [List.getElem?_toArray, List.getElem?_cons_succ, List.getElem?_cons_zero]; rfl)
            go_simp
            refine (HI.out.compare y1 y2 _ hHeld.tt hy1 hy2).mono ?_; rintro e wA1 ⟨rfl, hbwA1⟩
            refine hK.out _ _ ?_ (fun hHeld => ?_)
            · exact hHeld.next hbwA1
            clear hK K
            (try simp only [Act.put, List.setIfInBounds_toArray, List.set_cons_zero, List.set_cons_succ])
            refine' wpAnyH_take (i := 10) ?hitbw10 (by kernel_rfl) (by kernel_rfl) (by kernel_rfl) ?hqtbw10 (Or.inl ⟨?hwtbw10, ?hytbw10⟩) (by assumption) ?hrtbw10
            case hitbw10 => (simp only [List.getElem?_toArray, List.getElem?_cons_succ, List.getElem?_cons_zero]; rfl)
            case hqtbw10 => exact fun _ _ _ h => h
            case hwtbw10 => rfl
            case hytbw10 => (intro w0 hSw; (try dsimp only at hSw); go_simp; try with_reducible rfl)
            (try simp only [Act.put, List.setIfInBounds_toArray, List.set_cons_zero, List.set_cons_succ])
            refine wpAnyH_done (by kernel_rfl) ?_ _
            go_wp2_with fail
            go_roundw
            case rel => exact ⟨j + 1, .inl (by omega), by push_cast; rfl, hHeld⟩
            case measure => simp [intOf]; omega
          · have jI : (R.length : Int) ≤ (j : Int) + 1 := by omega
            have hrr : (R == setL R) = true := by rw [HRI.out]; exact beq_self_eq_true R
            have HIS := Lib.hid hrr
            have hLl : L.length ≤ 60 := by omega
            have hRl : R.length ≤ 1000 := by omega
            clear hrr hj hlt
            go_wp2_with (first
              | (go_at_call 14; refine (awake_any HI.out _ H8.tt).mono ?_; rintro e x9 ⟨rfl, hb9⟩)
              | (go_at_call 19; with_reducible refine (HI.out.is R _ _ H7.tt H7.rs hRl).mono ?_; rintro e x8 ⟨rfl, hb8⟩; have H8 := H7.next hb8; rw [HIS.out])
              | (go_at_call 17; with_reducible refine (rsame_eq (hm6.rd.to HEQ.out) H6.rs).mono ?_; rintro e x7 ⟨rfl, hb7⟩; have H7 := H6.next hb7)
              | (go_at_call 18; with_reducible refine (HI.out.set L _ _ HS.out.tt HS.out.r1 (by omega)).mono ?_; rintro e x6 ⟨v6, rfl, hm6, hb6⟩; have H6 := HS.out.next hb6))
            go_ret
            exact ⟨rfl, H8.below.trans (hb9.mono H8.below.size)⟩
      · clear HEX
        go_wp2_with (first
          | (go_at_call 18; with_reducible refine HSET.out.mono ?_; rintro e w5 ⟨vs, rfl, hms, hb5⟩))
        have hst0 : SSt T w (.slice ad1 L.length cap1) vs L R w5 := ⟨HI.out.next HT.out (HB.out.trans (hb5.mono HB.out.size)), HB.out.trans (hb5.mono HB.out.size), H1.out.next (HB.out.trans (hb5.mono HB.out.size)), hms.rd, HI.out.next⟩
        have HST0 := Lib.hid hst0
        obtain ⟨ad, cap, rfl⟩ := hms.rd.form
        have HROK := Lib.hid hms.rd.ok
        clear hst0 hms hb5 HB HSET
        go_loopw [11] (fun i wx => ∃ j : Nat, (j + 1 ≤ R.length ∨ j = 0) ∧ i = .int .i64 ((j : Int) + 1) ∧ SSt T w (.slice ad1 L.length cap1) (.slice ad R.length cap) L R wx) (fun i _ => R.length - (intOf i).toNat)
        case atStart => exact ⟨0, .inr rfl, rfl, HST0.out⟩
        case round =>
          obtain ⟨j, hj, rfl, hS⟩ := hrel
          have HS := Lib.hid hS
          have j0 : (0 : Int) ≤ (j : Int) := Int.natCast_nonneg _
          clear hS HST0
          by_cases hlt : j + 1 < R.length
          · have jI : (j : Int) + 1 < (R.length : Int) := by omega
            have hlt1 : j < R.length := by omega
            obtain ⟨b, off, rfl, -, -, -⟩ := HS.out.rs.load hlt1
            have hnx := sorted_next R HSRT.out (j + 1) (by omega) hlt
            rw [Nat.add_sub_cancel] at hnx
            have hy1 := HROK.out.get hlt1
            have hy2 := HROK.out.get hlt
            obtain ⟨y1, hY1⟩ : ∃ y, y = R.getD j [] := ⟨_, rfl⟩
            obtain ⟨y2, hY2⟩ : ∃ y, y = R.getD (j + 1) [] := ⟨_, rfl⟩
            rw [← hY1] at hnx hy1
            rw [← hY2] at hnx hy2
            have hj1 : (0 : Int) ≤ (j : Int) + 1 := by omega
            have hwj : IntKind.i64.wrap (j : Int) = (j : Int) := by rw [IntKind.wrap_i64]; omega
            have HY1 := Lib.hid hY1.symm
            have HY2 := Lib.hid hY2.symm
            clear hY1 hY2
            go_wp2_with fail
            refine wp_region_held_drew (S := SSt T w (.slice ad1 L.length cap1) (.slice (some ⟨b, off, none⟩) R.length cap) L R) (by kernel_rfl) ?_ (fun hHeld => ?_)
            · exact HS.out.drew
            refine' wpAnyH_take (i := 0) ?hitcw0 (by kernel_rfl) (by kernel_rfl) (by kernel_rfl) ?hqtcw0 (Or.inl ⟨?hwtcw0, ?hytcw0⟩) (by assumption) ?hrtcw0
            case hitcw0 => (simp only [List.getElem?_toArray, List.getElem?_cons_succ, List.getElem?_cons_zero]; rfl)
            case hqtcw0 => exact fun _ _ _ h => h
            case hwtcw0 => rfl
            case hytcw0 => (intro w0 hSw; (try dsimp only at hSw); go_simp; try with_reducible rfl)
            (try simp only [Act.put, List.setIfInBounds_toArray, List.set_cons_zero, List.set_cons_succ])
            refine' wpAnyH_take (i := 1) ?hitcw1 (by kernel_rfl) (by kernel_rfl) (by kernel_rfl) ?hqtcw1 (Or.inl ⟨?hwtcw1, ?hytcw1⟩) (by assumption) ?hrtcw1
            case hitcw1 => (simp only [List.getElem?_toArray, List.getElem?_cons_succ, List.getElem?_cons_zero]; rfl)
            case hqtcw1 => exact fun _ _ _ h => h
            case hwtcw1 => rfl
            case hytcw1 => (intro w0 hSw; (try dsimp only at hSw); go_simp; try with_reducible rfl)
            (try simp only [Act.put, List.setIfInBounds_toArray, List.set_cons_zero, List.set_cons_succ])
            refine' wpAnyH_take (i := 2) ?hitcw2 (by kernel_rfl) (by kernel_rfl) (by kernel_rfl) ?hqtcw2 (Or.inl ⟨?hwtcw2, ?hytcw2⟩) (by assumption) ?hrtcw2
            case hitcw2 => (simp only [List.getElem?_toArray, List.getElem?_cons_succ, List.getElem?_cons_zero]; rfl)
            case hqtcw2 => exact fun _ _ _ h => h
            case hwtcw2 => rfl
            case hytcw2 => (intro w0 hSw; (try dsimp only at hSw); go_simp; try with_reducible rfl)
            (try simp only [Act.put, List.setIfInBounds_toArray, List.set_cons_zero, List.set_cons_succ])
            refine' wpAnyH_take (i := 3) ?hitcw3 (by kernel_rfl) (by kernel_rfl) (by kernel_rfl) ?hqtcw3 (Or.inl ⟨?hwtcw3, ?hytcw3⟩) (by assumption) ?hrtcw3
            case hitcw3 => (simp only [List.getElem?_toArray, List.getElem?_cons_succ, List.getElem?_cons_zero]; rfl)
            case hqtcw3 => exact fun _ _ _ h => h
            case hwtcw3 => rfl
            case hytcw3 => (intro w0 hSw; (try dsimp only at hSw); go_simp; try with_reducible rfl)
            (try simp only [Act.put, List.setIfInBounds_toArray, List.set_cons_zero, List.set_cons_succ])
            refine' wpAnyH_take (i := 4) ?hitcw4 (by kernel_rfl) (by kernel_rfl) (by kernel_rfl) ?hqtcw4 (Or.inl ⟨?hwtcw4, ?hytcw4⟩) (by assumption) ?hrtcw4
            case hitcw4 => (simp only [List.getElem?_toArray, List.getElem?_cons_succ, List.getElem?_cons_zero]; rfl)
            case hqtcw4 => exact fun _ _ _ h => h
            case hwtcw4 => rfl
            case hytcw4 => exact fun w0 hSw => run_exec_load rfl rfl (hSw.rs.load_y hlt1 HY1.out)
            (try simp only [Act.put, List.setIfInBounds_toArray, List.set_cons_zero, List.set_cons_succ])
            refine' wpAnyH_take (i := 5) ?hitcw5 (by kernel_rfl) (by kernel_rfl) (by kernel_rfl) ?hqtcw5 (Or.inl ⟨?hwtcw5, ?hytcw5⟩) (by assumption) ?hrtcw5
            case hitcw5 => (simp only [List.getElem?_toArray, List.getElem?_cons_succ, List.getElem?_cons_zero]; rfl)
            case hqtcw5 => exact fun _ _ _ h => h
            case hwtcw5 => rfl
            case hytcw5 => (intro w0 hSw; (try dsimp only at hSw); go_simp; try with_reducible rfl)
            (try simp only [Act.put, List.setIfInBounds_toArray, List.set_cons_zero, List.set_cons_succ])
            refine' wpAnyH_take (i := 6) ?hitcw6 (by kernel_rfl) (by kernel_rfl) (by kernel_rfl) ?hqtcw6 (Or.inl ⟨?hwtcw6, ?hytcw6⟩) (by assumption) ?hrtcw6
            case hitcw6 => (simp only [List.getElem?_toArray, List.getElem?_cons_succ, List.getElem?_cons_zero]; rfl)
            case hqtcw6 => exact fun _ _ _ h => h
            case hwtcw6 => rfl
            case hytcw6 => (intro w0 hSw; (try dsimp only at hSw); go_simp; try with_reducible rfl)
            (try simp only [Act.put, List.setIfInBounds_toArray, List.set_cons_zero, List.set_cons_succ])
            refine' wpAnyH_take (i := 7) ?hitcw7 (by kernel_rfl) (by kernel_rfl) (by kernel_rfl) ?hqtcw7 (Or.inl ⟨?hwtcw7, ?hytcw7⟩) (by assumption) ?hrtcw7
            case hitcw7 => (simp only [List.getElem?_toArray, List.getElem?_cons_succ, List.getElem?_cons_zero]; rfl)
            case hqtcw7 => exact fun _ _ _ h => h
            case hwtcw7 => rfl
            case hytcw7 => (intro w0 hSw; (try dsimp only at hSw); go_simp; try with_reducible rfl)
            (try simp only [Act.put, List.setIfInBounds_toArray, List.set_cons_zero, List.set_cons_succ])
            refine' wpAnyH_take (i := 8) ?hitcw8 (by kernel_rfl) (by kernel_rfl) (by kernel_rfl) ?hqtcw8 (Or.inl ⟨?hwtcw8, ?hytcw8⟩) (by assumption) ?hrtcw8
            case hitcw8 => (simp only [List.getElem?_toArray, List.getElem?_cons_succ, List.getElem?_cons_zero]; rfl)
            case hqtcw8 => exact fun _ _ _ h => h
            case hwtcw8 => rfl
            case hytcw8 => exact fun w0 hSw => run_exec_load rfl rfl (hSw.rs.load_y hlt HY2.out)
            (try simp only [Act.put, List.setIfInBounds_toArray, List.set_cons_zero, List.set_cons_succ])
            refine wpAnyH_ready (rs := [9]) (by kernel_rfl) (by simp) ?_
            refine' AllReadyH.cons ?hitcw9 (fun K hK => ?hrtcw9) AllReadyH.nil
            case hitcw9 => (simp only [List.getElem?_toArray, List.getElem?_cons_succ, List.getElem?_cons_zero]; rfl)
            go_simp
            refine (HI.out.compare y1 y2 _ hHeld.tt hy1 hy2).mono ?_; rintro e wA1 ⟨rfl, hbwA1⟩
            refine hK.out _ _ ?_ (fun hHeld => ?_)
            · exact hHeld.next hbwA1
            clear hK K
            (try simp only [Act.put, List.setIfInBounds_toArray, List.set_cons_zero, List.set_cons_succ])
            refine' wpAnyH_take (i := 10) ?hitcw10 (by kernel_rfl) (by kernel_rfl) (by kernel_rfl) ?hqtcw10 (Or.inl ⟨?hwtcw10, ?hytcw10⟩) (by assumption) ?hrtcw10
            case hitcw10 => (simp only [List.getElem?_toArray, List.getElem?_cons_succ, List.getElem?_cons_zero]; rfl)
            case hqtcw10 => exact fun _ _ _ h => h
            case hwtcw10 => rfl
            case hytcw10 => (intro w0 hSw; (try dsimp only at hSw); go_simp; try with_reducible rfl)
            (try simp only [Act.put, List.setIfInBounds_toArray, List.set_cons_zero, List.set_cons_succ])
            refine wpAnyH_done (by kernel_rfl) ?_ _
            go_wp2_with fail
            go_roundw
            case rel => exact ⟨j + 1, .inl (by omega), by push_cast; rfl, hHeld⟩
            case measure => simp [intOf]; omega
          · have jI : (R.length : Int) ≤ (j : Int) + 1 := by omega
            have hrr : (R == setL R) = true := by rw [HRI.out]; exact beq_self_eq_true R
            have HIS := Lib.hid hrr
            have hLl : L.length ≤ 60 := by omega
            have hRl : R.length ≤ 1000 := by omega
            clear hrr hj hlt
            go_wp2_with (first
              | (go_at_call 14; refine (awake_any HI.out _ H8.tt).mono ?_; rintro e x9 ⟨rfl, hb9⟩)
              | (go_at_call 19; with_reducible refine (HI.out.is R _ _ H7.tt H7.rs hRl).mono ?_; rintro e x8 ⟨rfl, hb8⟩; have H8 := H7.next hb8; rw [HIS.out])
              | (go_at_call 17; with_reducible refine (rsame_eq (hm6.rd.to HEQ.out) H6.rs).mono ?_; rintro e x7 ⟨rfl, hb7⟩; have H7 := H6.next hb7)
              | (go_at_call 18; with_reducible refine (HI.out.set L _ _ HS.out.tt HS.out.r1 (by omega)).mono ?_; rintro e x6 ⟨v6, rfl, hm6, hb6⟩; have H6 := HS.out.next hb6))
            go_ret
            exact ⟨rfl, H8.below.trans (hb9.mono H8.below.size)⟩
end Go.Proofs.Ytfcoecojjciphaa.ids
