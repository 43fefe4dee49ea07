/-
  petrelref09.Cut.
-/
import Derived.Test.YtbfjljbllfjicaaMsct
namespace Go.Proofs.Ytbfjljbllfjicaa.msg
open Go.RowKit Go.Proofs.Ytbfjljbllfjicaa.mem Go.Proofs.Ytbfjljbllfjicaa.sha Go.Proofs.Ytbfjljbllfjicaa.ids
open Go.Proofs.Ytbfjljbllfjicaa.opn (b1 b2 b4 num txt idl byte rd rdN rdT rdI rdS rdL St Reads Stays endE zid mkId)

/-- what stands while ids are cut -/
def CutS (w wr : World) (vo : Value) (P : List (Mg × Value)) : Prop := OwnM wr vo P ∧ (∀ j, vo.ownBlock = some j → w.heap.size ≤ j) ∧ Below w.heap.size w wr
theorem CutS.grow {w wr : World} {vo : Value} {P : List (Mg × Value)} (h : CutS w wr vo P) (k : Int) (hl : P.length ≤ 1000000) (ty : TypeId) :
    ∃ v' w', (Builtin.append_ #[40, 40] ty #[vo, .slice (some ⟨wr.heap.size, 0, none⟩) 1 1]).run Try.prog (wr.alloc (.cells #[.int .i64 k, nv, .string (oct.tx [])] 24)) = .ok v' w' ∧ CutS w w' v' (P ++ [(⟨k, [], []⟩, nv)]) := by
  obtain ⟨h1, h2, h3⟩ := h
  obtain ⟨v', w', hr, ho, ht, hb⟩ := h1.grow k hl ty
  have hsz := h3.size
  refine ⟨v', w', hr, ho, fun j hj => ?_, h3.trans (ht.below fun j hj => hj.elim (h2 j) fun h => by omega)⟩
  rcases hb with e | e <;> rw [e] at hj
  · exact h2 j hj
  · cases hj; omega
/-- one id more in the last piece -/
theorem CutS.more {w wr : World} {vo : Value} {P : List (Mg × Value)} {m : Mg} {u : Value} (h : CutS w wr vo (P ++ [(m, u)])) {y : List UInt8} (hy : y.length = 32) (hm : m.ids.length ≤ 1000) (t1 t2 : TypeId) :
    ∃ g cap v1 w1 v2 w2, vo = .slice (some ⟨g, 0, none⟩) (P.length + 1) cap ∧ g < wr.heap.size ∧ wr.cell? ⟨g, P.length * 3 + 1, none⟩ = some u ∧ (wr.alloc (.cells #[] 58)).cell? ⟨g, P.length * 3 + 1, none⟩ = some u ∧
      (Builtin.append_ #[22, 22] t1 #[.slice (some ⟨wr.heap.size, 0, none⟩) 0 0, u]).run Try.prog (wr.alloc (.cells #[] 58)) = .ok v1 w1 ∧ Below w.heap.size w w1 ∧
      (Builtin.append_ #[22, 22] t2 #[v1, .slice (some ⟨w1.heap.size, 0, none⟩) 1 1]).run Try.prog (w1.alloc (.cells (bv y).toArray 58)) = .ok v2 w2 ∧
      w2.frozen? ⟨g, P.length * 3 + 1, none⟩ = false ∧ w2.cell? ⟨g, P.length * 3 + 1, none⟩ = some u ∧ (∃ ad n c, v2 = .slice ad n c) ∧
      CutS w (w2.setCell ⟨g, P.length * 3 + 1, none⟩ v2) vo (P ++ [(⟨m.k, m.ids ++ [y], m.body⟩, v2)]) := by
  obtain ⟨h1, h2, h3⟩ := h
  have hu : OwnI wr (fun _ => True) u m.ids := h1.2 (m, u) (by simp)
  have hBa := (Below.refl wr.heap.size wr).alloc (Nat.le_refl _) (.cells #[] 58)
  obtain ⟨wa, hwa⟩ : ∃ x, x = wr.alloc (.cells #[] 58) := ⟨_, rfl⟩
  have hL0 : OwnI wa (wr.heap.size ≤ ·) (.slice (some ⟨wr.heap.size, 0, none⟩) 0 0) [] := by rw [hwa]; exact OwnI.laid0 wr _ fun j hj => hj
  have hsa : wa.heap.size = wr.heap.size + 1 := by rw [hwa]; simp
  rw [← hwa] at hBa ⊢
  clear hwa
  obtain ⟨v1, w1, r1, o1, tn1⟩ := run_append_rd hL0 ((hu.below hBa).rdv (by omega)).1 (by rw [List.length_nil]; omega) (fun j hj => by omega) t1
  rw [List.nil_append] at o1
  have hB1 : Below wr.heap.size wr w1 := hBa.trans (tn1.below fun j hj => by
    rcases hj with hj | hj
    · cases hj; exact Nat.le_refl _
    · omega)
  obtain ⟨v2, w2, r2, o2, tn2⟩ := run_append_one o1 hy (by omega) (fun j hj => Nat.le_trans hB1.size hj) t2
  have hB2 : Below wr.heap.size wr w2 := hB1.trans (tn2.below fun j hj => by
    rcases hj with hj | hj
    · exact o1.2.2 j hj
    · exact Nat.le_trans hB1.size hj)
  have hM2 := h1.below hB2
  obtain ⟨g, cap, e1, e2, e3, e4, e5⟩ := hM2.last (o2.mono fun _ _ => trivial)
  have hgb : vo.ownBlock = some g := by rw [e1]; rfl
  have hg : g < wr.heap.size := (h1.1.lt g hgb).2
  have hc : wr.cell? ⟨g, P.length * 3 + 1, none⟩ = some u := by
    obtain ⟨g', cap', f1, f2, _⟩ := h1.last hu
    rw [e1] at f1
    injection f1 with f1
    injection f1 with f1
    injection f1 with f1
    subst f1
    exact f2
  have hca : wa.cell? ⟨g, P.length * 3 + 1, none⟩ = some u := (World.cell?_of_block (w := wr) (a := ⟨g, P.length * 3 + 1, none⟩) (hBa.block g hg)).trans hc
  obtain ⟨ad2, cap2, f2, -, -⟩ := o2.form
  refine ⟨g, cap, v1, w1, v2, w2, e1, hg, hc, hca, r1, h3.trans (hB1.mono h3.size), r2, e3, e2, ⟨ad2, _, cap2, f2⟩, e4, h2, (h3.trans (hB2.mono h3.size)).trans (e5.below fun j hj => ?_)⟩
  rw [hj]
  exact h2 g hgb
theorem cutN_len (k : Int) (L : List (List UInt8)) : ∀ n, (cutN k L n).length ≤ n
  | 0 => Nat.le_refl _
  | n + 1 => by
    have ih := cutN_len k L n
    show (addL (if n % 16 = 0 then _ else _) _).length ≤ _
    unfold addL
    split <;> (rw [List.length_append, List.length_dropLast, List.length_singleton]; (try rw [List.length_append, List.length_singleton]); omega)
set_option maxHeartbeats 4000000 in
set_option maxRecDepth 100000 in
theorem cut_any (k : Int) (L : List (List UInt8)) (ad : Option Addr) (n cap : Nat) (w : World) (hL : RdV w (.slice ad n cap) L) (hmax : L.length ≤ 1000) :
    Calls Try.prog 17 #[.int .i64 k, .slice ad n cap] w fun e w' => ∃ v, e = .returned v ∧ MsV w' v (cutM k L) ∧ Below w.heap.size w w' := by
  have hn := hL.len
  subst hn
  have HR := Lib.hid hL
  have HOK := Lib.hid hL.ok
  have HKA := Lib.hid (kind_any k w)
  obtain ⟨kk, hkk⟩ : ∃ z, z = kindM k := ⟨_, rfl⟩
  rw [← hkk] at HKA
  have HKK := Lib.hid hkk
  clear hL hkk
  by_cases h1 : kk = 1
  case neg =>
    have h2 : (kk != 1) = true := bne_iff_ne.2 h1
    have HE : Hid (cutM k L = []) := Lib.hid (by unfold cutM; rw [if_neg (by rw [← HKK.out]; exact h1)])
    clear h1
    go_enter Try.func17, Try.ntmps17
    go_wp2_with (go_at_call 25; (with_reducible refine HKA.out.mono ?_); rintro e w2 ⟨rfl, rfl⟩)
    go_ret
    exact ⟨_, rfl, by rw [HE.out]; exact ⟨[], rfl, ⟨none, 0, rfl, .inl rfl⟩, fun p hp => by cases hp⟩, Below.refl _ _⟩
  subst h1
  have HE : Hid (cutM k L = cutN k L L.length) := Lib.hid (by unfold cutM; rw [if_pos HKK.out.symm])
  go_enter Try.func17, Try.ntmps17
  go_wp2_with (go_at_call 25; (with_reducible refine HKA.out.mono ?_); rintro e w2 ⟨rfl, rfl⟩)
  go_loopw [5, 6, 7] (fun vo i vl wr => ∃ (q : Nat) (P : List (Mg × Value)), q ≤ L.length ∧ i = .int .i64 q ∧ P.map (·.1) = cutN k L q ∧ CutS w wr vo P) (fun _ i _ _ => L.length - (intOf i).toNat)
  case atStart => exact ⟨0, [], Nat.zero_le _, rfl, rfl, OwnM.nil _, fun j hj => by simp [Value.ownBlock] at hj, Below.refl _ _⟩
  case round =>
    obtain ⟨q, P, hq, rfl, hP, hC⟩ := hrel
    have q0 : (0 : Int) ≤ (q : Int) := Int.natCast_nonneg _
    by_cases hlt : q < L.length
    case neg =>
      obtain rfl : q = L.length := by omega
      have HC := Lib.hid hC
      have HP := Lib.hid hP
      clear hC hP
      go_wp2_with fail
      go_ret
      exact ⟨_, rfl, by rw [HE.out, ← HP.out]; exact HC.out.1.msv (fun p hp => by have h := (cutN_is k L HOK.out L.length (Nat.le_refl _)).2.1 p.1 (by rw [← HP.out]; exact List.mem_map_of_mem hp); omega), HC.out.2.2⟩
    have qI : (q : Int) < (L.length : Int) := by omega
    obtain ⟨y, hyy⟩ : ∃ y, y = L.getD q [] := ⟨_, rfl⟩
    have hy := HOK.out.get hlt
    rw [← hyy] at hy
    obtain ⟨b, off, rfl, -, -, -⟩ := HR.out.load hlt
    have hlen := cutN_len k L q
    have his := cutN_is k L HOK.out q hq
    rw [← hP, List.length_map] at hlen
    by_cases h16 : q % 16 = 0
    · have hQ : cutN k L (q + 1) = P.map (·.1) ++ [⟨k, [y], []⟩] := by
        show addL (if q % 16 = 0 then _ else _) _ = _
        rw [if_pos h16, addL_snoc, ← hP, ← hyy]
        rfl
      have g1 : ((q : Int) % 16 == 0) = true := by rw [beq_iff_eq]; omega
      obtain ⟨v8, w8, r8, hT⟩ := hC.grow k (by omega) 40
      have R8 := Lib.hid r8
      have HT := Lib.hid hT
      have HQ := Lib.hid hQ
      have HY := Lib.hid hyy
      have HHY := Lib.hid hy
      have HLEN := Lib.hid hlen
      clear hC hP hQ hT r8 his hyy hy hlen h16
      go_upto_region 9 with (first
        | ((with_reducible refine step_append (s := .tmp 21) (x := .tmp 24) (t := 40) (vs := ?asg8) (vx := ?axg8) (v' := ?avg8) (w' := ?awg8) ?agg8 ?aog8 ?apg8 ?aqg8 ?arg8 ?ahg8); (case agg8 => rfl); (case aog8 => rfl); (case apg8 => rfl); (case aqg8 => rfl); (case arg8 => exact R8.out)))
      obtain ⟨P0, hP0⟩ : ∃ P0, P0 = P := ⟨_, rfl⟩
      obtain ⟨m, hm⟩ : ∃ m : Mg, m = ⟨k, [], []⟩ := ⟨_, rfl⟩
      obtain ⟨u, hu⟩ : ∃ u, u = nv := ⟨_, rfl⟩
      have hT := HT.out
      rw [← hP0, ← hm, ← hu] at hT
      have hml : m.ids.length ≤ 1000 := by rw [hm]; exact Nat.zero_le _
      have hQQ : P0.map (·.1) ++ [(⟨m.k, m.ids ++ [y], m.body⟩ : Mg)] = cutN k L (q + 1) := by rw [HQ.out, hP0, hm]; simp
      have hlen : P0.length ≤ 1000 := by have h := HLEN.out; rw [hP0]; omega
      have hy := HHY.out
      have hyy := HY.out
      clear hP0 hm hu HT HQ R8
      have hfu : OwnI _ (fun _ => True) u m.ids := hT.1.2 (m, u) (by simp)
      obtain ⟨adu, cpu, rfl, -, -⟩ := hfu.form
      clear hfu
      obtain ⟨g, cp, v1, w1, v2, w2, rfl, hg, hc, hca, r1, hB1, r2, hfz, hc2, ⟨ad2, n2, c2, rfl⟩, hN⟩ := hT.more hy hml 22 22
      obtain ⟨j, hj⟩ : ∃ j, j = P0.length := ⟨_, rfl⟩
      obtain ⟨lu, hlu⟩ : ∃ j, j = m.ids.length := ⟨_, rfl⟩
      have hld := RdV.load_y (HR.out.below hB1 (Nat.le_refl _)) hlt hyy.symm
      have j0 : (0 : Int) ≤ (j : Int) := Int.natCast_nonneg _
      have jm : (j : Int) ≤ 1000 := by rw [hj]; omega
      rw [← hj] at hc hca hfz hc2 hN ⊢
      rw [← hlu] at hc hca r1 hc2
      have HN := Lib.hid hN
      have HQQ := Lib.hid hQQ
      clear hT hN hQQ hj hlu hB1 hml hlen hyy
      go_wp2_with (first
        | ((with_reducible refine step_append (s := .tmp 26) (x := .tmp 33) (t := 22) (vs := ?asta1) (vx := ?axta1) (v' := ?avta1) (w' := ?awta1) ?agta1 ?aota1 ?apta1 ?aqta1 ?arta1 ?ahta1); (case agta1 => rfl); (case aota1 => rfl); (case apta1 => rfl); (case aqta1 => rfl); (case arta1 => exact r1))
        | ((with_reducible refine step_load (t := 58) (x := .tmp 38) (p := ?lpta2) (v := ?lvta2) ?lgta2 ?lota2 ?lxta2 ?lrta2 ?lhta2); (case lgta2 => rfl); (case lota2 => rfl); (case lxta2 => rfl); (case lrta2 => exact hld))
        | ((with_reducible refine step_build1 (x := .tmp 39) (y := ?byta3) ?bgta3 ?bota3 ?bxta3 ?blta3 ?bhta3); (case bgta3 => rfl); (case bota3 => rfl); (case bxta3 => rfl); (case blta3 => exact hy))
        | ((with_reducible refine step_append (s := .tmp 35) (x := .tmp 40) (t := 22) (vs := ?asta4) (vx := ?axta4) (v' := ?avta4) (w' := ?awta4) ?agta4 ?aota4 ?apta4 ?aqta4 ?arta4 ?ahta4); (case agta4 => rfl); (case aota4 => rfl); (case apta4 => rfl); (case aqta4 => rfl); (case arta4 => exact r2)))
      go_roundw
      case rel => exact ⟨q + 1, _, hlt, by push_cast; rfl, by rw [← HQQ.out]; simp, HN.out⟩
      case measure => simp [intOf]; omega
    · obtain ⟨P0, m, u, hPe⟩ : ∃ P0 m u, P = P0 ++ [(m, u)] := by
        have hne : P ≠ [] := by
          rintro rfl
          obtain ⟨Q, m, e, -⟩ := his.2.2 (by omega)
          rw [← hP] at e
          exact absurd (congrArg List.length e) (by simp)
        exact ⟨P.dropLast, (P.getLast hne).1, (P.getLast hne).2, (List.dropLast_concat_getLast hne).symm⟩
      subst hPe
      have hQQ : P0.map (·.1) ++ [(⟨m.k, m.ids ++ [y], m.body⟩ : Mg)] = cutN k L (q + 1) := by
        show _ = addL (if q % 16 = 0 then _ else _) _
        rw [if_neg h16, ← hP, List.map_append, List.map_cons, List.map_nil, addL_snoc, ← hyy]
      have hml : m.ids.length ≤ 1000 := by
        have h := his.2.1 m (by rw [← hP]; simp)
        omega
      have hlen : P0.length ≤ 1000 := by rw [List.length_append] at hlen; omega
      have g1 : ((q : Int) % 16 == 0) = false := beq_eq_false_iff_ne.2 (by omega)
      have hT := hC
      clear hC hP his h16
      go_upto_region 9 with fail
      have hfu : OwnI _ (fun _ => True) u m.ids := hT.1.2 (m, u) (by simp)
      obtain ⟨adu, cpu, rfl, -, -⟩ := hfu.form
      clear hfu
      obtain ⟨g, cp, v1, w1, v2, w2, rfl, hg, hc, hca, r1, hB1, r2, hfz, hc2, ⟨ad2, n2, c2, rfl⟩, hN⟩ := hT.more hy hml 22 22
      obtain ⟨j, hj⟩ : ∃ j, j = P0.length := ⟨_, rfl⟩
      obtain ⟨lu, hlu⟩ : ∃ j, j = m.ids.length := ⟨_, rfl⟩
      have hld := RdV.load_y (HR.out.below hB1 (Nat.le_refl _)) hlt hyy.symm
      have j0 : (0 : Int) ≤ (j : Int) := Int.natCast_nonneg _
      have jm : (j : Int) ≤ 1000 := by rw [hj]; omega
      rw [← hj] at hc hca hfz hc2 hN ⊢
      rw [← hlu] at hc hca r1 hc2
      have HN := Lib.hid hN
      have HQQ := Lib.hid hQQ
      clear hT hN hQQ hj hlu hB1 hml hlen hyy
      go_wp2_with (first
        | ((with_reducible refine step_append (s := .tmp 26) (x := .tmp 33) (t := 22) (vs := ?astb1) (vx := ?axtb1) (v' := ?avtb1) (w' := ?awtb1) ?agtb1 ?aotb1 ?aptb1 ?aqtb1 ?artb1 ?ahtb1); (case agtb1 => rfl); (case aotb1 => rfl); (case aptb1 => rfl); (case aqtb1 => rfl); (case artb1 => exact r1))
        | ((with_reducible refine step_load (t := 58) (x := .tmp 38) (p := ?lptb2) (v := ?lvtb2) ?lgtb2 ?lotb2 ?lxtb2 ?lrtb2 ?lhtb2); (case lgtb2 => rfl); (case lotb2 => rfl); (case lxtb2 => rfl); (case lrtb2 => exact hld))
        | ((with_reducible refine step_build1 (x := .tmp 39) (y := ?bytb3) ?bgtb3 ?botb3 ?bxtb3 ?bltb3 ?bhtb3); (case bgtb3 => rfl); (case botb3 => rfl); (case bxtb3 => rfl); (case bltb3 => exact hy))
        | ((with_reducible refine step_append (s := .tmp 35) (x := .tmp 40) (t := 22) (vs := ?astb4) (vx := ?axtb4) (v' := ?avtb4) (w' := ?awtb4) ?agtb4 ?aotb4 ?aptb4 ?aqtb4 ?artb4 ?ahtb4); (case agtb4 => rfl); (case aotb4 => rfl); (case aptb4 => rfl); (case aqtb4 => rfl); (case artb4 => exact r2)))
      go_roundw
      case rel => exact ⟨q + 1, _, hlt, by push_cast; rfl, by rw [← HQQ.out]; simp, HN.out⟩
      case measure => simp [intOf]; omega
end Go.Proofs.Ytbfjljbllfjicaa.msg
