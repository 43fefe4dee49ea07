/-
  The landed msg: Cut.
-/
import Derived.Test.YtbfjljbllfjicaaMlk1
import Derived.Test.YtbfjljbllfjicaaMswc
import Derived.RangeFuncNested
namespace Go.Proofs.Ytbfjljbllfjicaa.msg
open Go.RowKit Go.Shelf Go.Proofs.Ytbfjljbllfjicaa.mem Go.Proofs.Ytbfjljbllfjicaa.sha Go.Proofs.Ytbfjljbllfjicaa.ids
open Go.Proofs.Ytbfjljbllfjicaa.opn (b1 b2 b4 num txt idl byte rd rdN rdT rdI rdS rdL St Reads Stays endE zid mkId)
attribute [local go_sem] Oper.semAt_some

/-- what stands between two pieces: the messages so far in the box of 'out' -/
structure CutJ (k : Int) (L : List (List UInt8)) (B BK BO : Nat) (w0 : World) (pre : List (Ch L.length)) (vo : Value) (P : List (Mg × Value)) (W : World) : Prop where
  out : Blk W BO 40 #[vo]
  kb : Blk W BK 3 #[.int .i64 k]
  ps : P.map (·.1) = pre.map fun x => ⟨k, pieceC L x.1, []⟩
  own : OwnM W vo P
  new : ∀ j, vo.ownBlock = some j → B ≤ j
  below : Below w0.heap.size w0 W
  siz : B ≤ W.heap.size
def CutIv (k : Int) (L : List (List UInt8)) (B BK BO : Nat) (w0 : World) (pre : List (Ch L.length)) (W : World) : Prop := ∃ vo P, CutJ k L B BK BO w0 pre vo P W
theorem cutIv_own {k : Int} {L : List (List UInt8)} {B BK BO : Nat} {w0 : World} (hB : w0.heap.size ≤ B) : OwnFrom B (CutIv k L B BK BO w0) := by
  rintro s W W' row ⟨vo, P, h⟩ hg hr
  have ht : Turn (fun j => row = some j ∨ W.heap.size ≤ j) W W' := Turn.grown hg (fun k hk => .inl hk) (fun k hk => .inr hk)
  have hn : ∀ j cs t z, W.heap[j]? = some (.cells cs t z) → ¬ (row = some j ∨ W.heap.size ≤ j) := fun j cs t z hj hh => by
    rcases hh with hh | hh
    · obtain ⟨_, o, ho, hc⟩ := hr j hh
      rw [hj] at ho
      cases ho
      cases hc
    · rw [Array.getElem?_eq_none hh] at hj
      cases hj
  exact ⟨vo, P, h.out.turn ht (hn _ _ _ _ h.out), h.kb.turn ht (hn _ _ _ _ h.kb), h.ps, h.own.turn ht (fun j cs t z _ hj => hn j cs t z hj), h.new, h.below.trans (ht.below fun j hj => by
    rcases hj with hj | hj
    · exact Nat.le_trans hB (hr j hj).1
    · exact Nat.le_trans h.below.size hj), Nat.le_trans h.siz hg.size⟩
/-- a piece more: what the append leaves, and the store behind it -/
theorem CutJ.more {k : Int} {L : List (List UInt8)} {B BK BO : Nat} {w0 W w3 : World} {pre : List (Ch L.length)} {vo u : Value} {P : List (Mg × Value)} (h : CutJ k L B BK BO w0 pre vo P W) (x : Ch L.length) (hm : pre.length ≤ 1000) (hO : BO < B) (hKO : BK ≠ BO) (hKB : BK < B) (h0 : w0.heap.size ≤ BO)
    (hb : Below W.heap.size W w3) (hu : OwnI w3 (W.heap.size ≤ ·) u (pieceC L x.1)) (ty : TypeId) :
    ∃ v' w', (Builtin.append_ #[40, 40] ty #[vo, .slice (some ⟨w3.heap.size, 0, none⟩) 1 1]).run Try.prog (w3.alloc (.cells #[.int .i64 k, u, .string (oct.tx [])] 24)) = .ok v' w' ∧
      Blk w' BO 40 #[vo] ∧ Blk w' BK 3 #[.int .i64 k] ∧ (∃ a n c, v' = .slice a n c) ∧
      CutJ k L B BK BO w0 (pre ++ [x]) v' (P ++ [(⟨k, pieceC L x.1, []⟩, u)]) (w'.setCell ⟨BO, 0, none⟩ v') ∧ Turn (fun j => j = BO ∨ vo.ownBlock = some j ∨ W.heap.size ≤ j) W (w'.setCell ⟨BO, 0, none⟩ v') := by
  have hsz := hb.size
  have hW := h.siz
  have h3 := h.own.below hb
  have hPl : P.length = pre.length := by rw [← List.length_map (f := fun p : Mg × Value => p.1), h.ps, List.length_map]
  obtain ⟨v', w', hr, ho, ht, hown⟩ := h3.push ⟨k, pieceC L x.1, []⟩ (hu.mono fun _ _ => trivial) (by omega) ty
  have hOW := h.out.lt
  have hKW := h.kb.lt
  have hno : ∀ j, j < W.heap.size → ¬ (B ≤ j) → ¬ (vo.ownBlock = some j ∨ w3.heap.size ≤ j) := fun j hj hB hh => by
    rcases hh with hh | hh
    · exact hB (h.new j hh)
    · omega
  have hO3 : Blk w' BO 40 #[vo] := (h.out.below hb hOW).turn ht (hno _ hOW (by omega))
  have hK3 : Blk w' BK 3 #[.int .i64 k] := (h.kb.below hb hKW).turn ht (hno _ hKW (by omega))
  have hs : Turn (· = BO) w' (w'.setCell ⟨BO, 0, none⟩ v') := (Turn.refl (· = BO) w').setCell rfl _
  have ht2 : Turn (fun j => j = BO ∨ vo.ownBlock = some j ∨ W.heap.size ≤ j) W (w'.setCell ⟨BO, 0, none⟩ v') :=
    ((Turn.ofBelow hb).mono (fun j hj => .inr (.inr hj))).trans ((ht.mono fun j hj => .inr (hj.imp id fun hj => Nat.le_trans hsz hj)).trans (hs.mono fun j hj => .inl hj))
  have hsl : ∃ a n c, v' = .slice a n c := by
    rcases ho.1.2 with ⟨rfl, _⟩ | ⟨g, cap, cur, rfl, _⟩
    · exact ⟨_, _, _, rfl⟩
    · exact ⟨_, _, _, rfl⟩
  refine ⟨v', w', hr, hO3, hK3, hsl, ⟨hO3.set_ 0 v', hK3.turn hs (fun e => hKO e), by rw [List.map_append, List.map_append, h.ps]; rfl, ?_, fun j hj => ?_, h.below.trans (ht2.below fun j hj => ?_), Nat.le_trans hW ht2.size⟩, ht2⟩
  · refine ho.turn hs fun j cs t z ht hj e => ?_
    rw [e, show w'.heap[BO]? = _ from hO3] at hj
    have he : t = 40 := by
      injection hj with hj
      injection hj with _ hj _
      exact hj.symm
    rw [he] at ht
    exact absurd ht (by decide)
  · rcases hown with e | e <;> rw [e] at hj
    · exact h.new j hj
    · cases hj; omega
  · rcases hj with hj | hj | hj
    · omega
    · have := h.new j hj; omega
    · exact Nat.le_trans h.below.size hj
set_option maxHeartbeats 8000000 in
set_option maxRecDepth 100000 in
theorem lcut_any : CutIs fun _ => True := by
  intro k L v w _ hL hmax
  have HH := Lib.hid (fun u => has_any k u)
  obtain ⟨kk, hkk⟩ : ∃ x, x = kindM k := ⟨_, rfl⟩
  rw [← hkk] at HH
  have HKK := Lib.hid hkk
  clear hkk
  obtain ⟨ad, cap, rfl⟩ := hL.form
  by_cases h1 : kk = 1
  case neg =>
    have h2 : (kk != 1) = true := bne_iff_ne.2 h1
    have HE : Hid (cutM k L = []) := Lib.hid (by unfold cutM; rw [if_neg (by rw [← HKK.out]; exact h1)])
    clear h1 hL hmax
    go_enter Try.func16, Try.ntmps16
    go_wp2_with (go_at_call 20; (with_reducible refine (HH.out _).mono ?_); rintro e w2 ⟨rfl, rfl⟩)
    go_ret
    refine ⟨_, rfl, by rw [HE.out]; exact ⟨[], rfl, ⟨none, 0, rfl, .inl rfl⟩, fun p hp => by cases hp⟩, ?_⟩
    exact (Below.refl _ _).alloc (Nat.le_refl _) _
  subst h1
  have HE : Hid (cutM k L = (List.range ((L.length + 15) / 16)).map fun i => ⟨k, pieceC L i, []⟩) := Lib.hid (by unfold cutM; rw [if_pos HKK.out.symm, cutN_all]; rfl)
  have HL := Lib.hid hL
  have HM := Lib.hid hmax
  clear hL hmax
  refine (callsIn_wide (n := 5)).1 ?_
  refine callsIn_of_wp_marks Try.func16 rfl trivial ?_ rfl
  simp only [Try.ntmps16, List.size_toArray, List.length_cons, List.length_nil, Nat.reduceAdd, Nat.reduceSub, Array.replicate_succ, Array.replicate_zero, List.push_toArray, List.append_toArray, List.nil_append, List.cons_append]
  gi_wp2_with (first
    | (refine ⟨trivial, ?_⟩; gi_at_call 20; (refine (callsIn_wide.2 (HH.out _)).mono ?_); rintro e w2 ⟨rfl, rfl⟩)
    | (refine ⟨trivial, ?_⟩; gi_at_call 41; (refine (callsIn_wide.2 (chunk_any _ _ _ _)).mono ?_); rintro e w2 ⟨rfl, rfl⟩))
  have HRD := HL.out
  obtain ⟨B0, hB0⟩ : ∃ n, n = w.heap.size := ⟨_, rfl⟩
  rw [← hB0]
  obtain ⟨W0, hW0⟩ : ∃ u, u = (((w.alloc (.cells #[.int .i64 k] 3)).alloc (.cells #[.slice none 0 0] 40)).alloc (.cells #[.slice ad L.length cap] 22)).alloc (.cells #[.int .i64 16] 3) := ⟨_, rfl⟩
  rw [← hW0]
  have hsz : W0.heap.size = B0 + 4 := by rw [hW0, hB0]; simp
  have b0 : Blk W0 B0 3 #[.int .i64 k] := by rw [hW0, hB0]; exact (((Blk.new w _ _).alloc _).alloc _).alloc _
  have b1 : Blk W0 (B0 + 1) 40 #[.slice none 0 0] := by rw [hW0, hB0]; exact ((Blk.at_ (by simp) _ _).alloc _).alloc _
  have b2 : Blk W0 (B0 + 1 + 1) 22 #[.slice ad L.length cap] := by rw [hW0, hB0]; exact (Blk.at_ (by simp) _ _).alloc _
  have b3 : Blk W0 (B0 + 1 + 1 + 1) 3 #[.int .i64 16] := by rw [hW0, hB0]; exact Blk.at_ (by simp) _ _
  have hB : Below w.heap.size w W0 := by rw [hW0]; exact ((((Below.refl _ _).alloc (Nat.le_refl _) _).alloc (by simp) _).alloc (by simp; omega) _).alloc (by simp; omega) _
  have HB0 := Lib.hid hB0
  have HSZ := Lib.hid hsz
  clear hW0 hB0
  refine wpIn_rangeFunc_ownG rfl (by decide) (gf := 54) (lb := #[.pointer (some ⟨B0 + 1 + 1, 0, none⟩), .pointer (some ⟨B0 + 1 + 1 + 1, 0, none⟩)]) rfl trivial (enters_of Try.func54 (by kernel_rfl) rfl)
    (chunk_stops 3 (B0 + 1 + 1) (B0 + 1 + 1 + 1) L ad cap w W0 HRD HM.out (by omega) (by omega) (b2.cell 0) (b3.cell 0)) KpC.trans
    (fun W l o o' hl _ _ _ => ⟨by simp, World.putObj_heap_other (by omega), World.putObj_heap_other (by omega)⟩) (Below.refl _ _) (fun _ => rfl)
    (CutIv k L W0.heap.size B0 (B0 + 1) w) (fun _ _ _ => False) (cutIv_own hB.size) (fun _ _ _ _ _ hs _ _ => hs)
    ⟨_, [], b1, b0, rfl, OwnM.nil _, fun j hj => by simp [Value.ownBlock] at hj, hB, Nat.le_refl _⟩
    (fun x => { tmps := #[.int .i64 k, .slice ad L.length cap, .pointer (some ⟨B0, 0, none⟩), undef, .slice none 0 0, .pointer (some ⟨B0 + 1, 0, none⟩), chV ((ad.getD ⟨0, 0, none⟩).block) ((ad.getD ⟨0, 0, none⟩).off) L.length x.1, .int .i64 k, .int .i64 1, .bool false, .slice ad L.length cap,
      .func (.func 54) #[] #[.pointer (some ⟨B0 + 1 + 1, 0, none⟩), .pointer (some ⟨B0 + 1 + 1 + 1, 0, none⟩)], chV ((ad.getD ⟨0, 0, none⟩).block) ((ad.getD ⟨0, 0, none⟩).off) L.length x.1, undef, undef, undef, undef, undef, undef, undef, undef], defers := [] }) ?assign ?body ?done ?stop
  case assign =>
    intro l x W K hK
    gi_wp2
    exact hK
  case body =>
    rintro l pre x W ⟨vo, P, hI⟩ hlt
    clear b0 b1 b2 b3 hsz
    have hform : ∃ a n c, vo = .slice a n c := by
      rcases hI.own.1.2 with ⟨rfl, _⟩ | ⟨g, cap, cur, rfl, _⟩
      · exact ⟨_, _, _, rfl⟩
      · exact ⟨_, _, _, rfl⟩
    obtain ⟨a0, n0, c0, rfl⟩ := hform
    have HC0 : Hid (W.drew.cell? ⟨B0 + 1, 0, none⟩ = some (.slice a0 n0 c0)) := Lib.hid (hI.out.cell 0)
    have HSW := Lib.hid hI.siz
    have hpl : pre.length ≤ 1000 := by have := HM.out; omega
    have hrd := piece_rd (HL.out.next hI.below) x.2
    have hcl := iclone_any (hrd.drewN 1) (by rw [pieceC_len]; exact Nat.lt_of_le_of_lt (Nat.min_le_left _ _) (by decide))
    have HI := Lib.hid hI
    have HCL := Lib.hid hcl
    clear hI hrd hcl
    refine wpIn_block ?_
    refine wpIn_region_round (by kernel_rfl) (by kernel_rfl) (fun ⟨_, _, h⟩ => h) ?_
    refine wpAny_of_held (S := fun u => Blk u B0 3 #[.int .i64 k]) _ _ _ _ ?_
    have hHeld : Blk W.drew B0 3 #[.int .i64 k] := HI.out.kb
    refine' wpAnyH_take (i := 1) ?hiz1 (by kernel_rfl) (by kernel_rfl) (by kernel_rfl) ?hqz1 (Or.inl ⟨?hwz1, ?hyz1⟩) (by assumption) ?hrz1
    case hiz1 => (simp only [List.getElem?_toArray, List.getElem?_cons_succ, List.getElem?_cons_zero]; rfl)
    case hqz1 => exact fun _ _ _ h => h
    case hwz1 => rfl
    case hyz1 => exact fun w0 hSw => by have hc := Blk.cell hSw 0; go_simp; try with_reducible rfl
    (try simp only [Act.put, List.setIfInBounds_toArray, List.set_cons_zero, List.set_cons_succ])
    refine' wpAnyH_take (i := 2) ?hiz2 (by kernel_rfl) (by kernel_rfl) (by kernel_rfl) ?hqz2 (Or.inl ⟨?hwz2, ?hyz2⟩) (by assumption) ?hrz2
    case hiz2 => (simp only [List.getElem?_toArray, List.getElem?_cons_succ, List.getElem?_cons_zero]; rfl)
    case hqz2 => exact fun _ _ _ h => h
    case hwz2 => rfl
    case hyz2 => (intro w0 hSw; (try dsimp only at hSw); go_simp; try with_reducible rfl)
    (try simp only [Act.put, List.setIfInBounds_toArray, List.set_cons_zero, List.set_cons_succ])
    refine wpAnyH_ready (rs := [0, 3]) (by kernel_rfl) (by simp) ?_
    refine' AllReadyH.cons ?hiy3 (fun K hK => ?hry3) (AllReadyH.cons ?hiy4 (fun K hK => ?hry4) AllReadyH.nil)
    case hiy3 => (simp only [List.getElem?_toArray, List.getElem?_cons_succ, List.getElem?_cons_zero]; rfl)
    case hiy4 => (simp only [List.getElem?_toArray, List.getElem?_cons_succ, List.getElem?_cons_zero]; rfl)
    case hry3 =>
      have hc := HC0.out
      go_simp
      refine hK.out _ _ ?_ (fun hHeld => ?_)
      · exact HI.out.kb
      clear hK K
      (try simp only [Act.put, List.setIfInBounds_toArray, List.set_cons_zero, List.set_cons_succ])
      refine wpAnyH_ready (rs := [3]) (by kernel_rfl) (by simp) ?_
      refine' AllReadyH.cons ?hiy5 (fun K hK => ?hry5) AllReadyH.nil
      case hiy5 => (simp only [List.getElem?_toArray, List.getElem?_cons_succ, List.getElem?_cons_zero]; rfl)
      case hry5 =>
        go_simp
        refine HCL.out.mono ?_
        rintro e w3 ⟨u, rfl, hu, hb3⟩
        have hb3' : Below W.heap.size W w3 := ⟨hb3.os, hb3.tape, hb3.output, hb3.size, hb3.block⟩
        obtain ⟨v', w', hr, hO3, hK3, ⟨a2, n2, c2, rfl⟩, hJ, hT⟩ := HI.out.more x hpl (by have := HSZ.out; omega) (by omega) (by have := HSZ.out; omega) (by have := HB0.out; omega) hb3' hu 40
        obtain ⟨adu, capu, huf, -, -⟩ := hu.form
        subst huf
        obtain ⟨lnu, hlnu⟩ : ∃ j, j = (pieceC L x.1).length := ⟨_, rfl⟩
        rw [← hlnu] at hr hJ ⊢
        have HK3a := Lib.hid (HI.out.kb.below hb3' HI.out.kb.lt)
        have HC3 := Lib.hid ((HI.out.out.below hb3' HI.out.out.lt).cell 0)
        have HC3b : Hid ((w3.alloc (.cells #[.int .i64 k, .slice adu lnu capu, .string ⟨#[]⟩] 24)).cell? ⟨B0 + 1, 0, none⟩ = some (.slice a0 n0 c0)) := Lib.hid (((HI.out.out.below hb3' HI.out.out.lt).alloc (.cells #[.int .i64 k, .slice adu lnu capu, .string (oct.tx [])] 24)).cell 0)
        have HR := Lib.hid hr
        have HCO := Lib.hid (hO3.cell 0)
        have HFO := Lib.hid (hO3.frozen 0)
        have HK3 := Lib.hid hK3
        have HJ := Lib.hid hJ
        have FIN : Hid (∀ z : Act, ownPostG W0.heap.size (KpC (B0 + 1 + 1) (B0 + 1 + 1 + 1)) (CutIv k L W0.heap.size B0 (B0 + 1) w) (fun _ _ _ => False) (pre ++ [x]) W .normal z (w'.setCell ⟨B0 + 1, 0, none⟩ (.slice a2 n2 c2))) := Lib.hid fun _ => ⟨keepsFrom_turn hT (fun j o hj ho hh => by
      rcases hh with rfl | hh | hh
      · rw [HI.out.out.isCells hj] at ho; cases ho
      · obtain ⟨cs, hcs⟩ := HI.out.own.own_cells hh
        rw [hcs] at hj; cases hj; cases ho
      · rw [Array.getElem?_eq_none hh] at hj; cases hj), ⟨hT.size, hT.block _ (fun hh => by
          have := HSW.out; have := HSZ.out
          rcases hh with hh | hh | hh
          · omega
          · have := HI.out.new _ hh; omega
          · omega), hT.block _ (fun hh => by
          have := HSW.out; have := HSZ.out
          rcases hh with hh | hh | hh
          · omega
          · have := HI.out.new _ hh; omega
          · omega)⟩, _, _, hJ⟩
        clear hr hO3 hK3 hJ hT hb3 hb3' hu hlnu
        refine hK.out _ _ ?_ (fun hHeld => ?_)
        · exact HK3a.out
        clear hK K
        (try simp only [Act.put, List.setIfInBounds_toArray, List.set_cons_zero, List.set_cons_succ])
        refine' wpAnyH_take (i := 4) ?hiz6 (by kernel_rfl) (by kernel_rfl) (by kernel_rfl) ?hqz6 (Or.inl ⟨?hwz6, ?hyz6⟩) (by assumption) ?hrz6
        case hiz6 => (simp only [List.getElem?_toArray, List.getElem?_cons_succ, List.getElem?_cons_zero]; rfl)
        case hqz6 => exact fun _ _ _ h => h
        case hwz6 => rfl
        case hyz6 => (intro w0 hSw; (try dsimp only at hSw); go_simp; try with_reducible rfl)
        (try simp only [Act.put, List.setIfInBounds_toArray, List.set_cons_zero, List.set_cons_succ])
        refine wpAnyH_ready (rs := [5]) (by kernel_rfl) (by simp) ?_
        refine' AllReadyH.cons ?hiy7 (fun K hK => ?hry7) AllReadyH.nil
        case hiy7 => (simp only [List.getElem?_toArray, List.getElem?_cons_succ, List.getElem?_cons_zero]; rfl)
        case hry7 =>
          go_simp
          refine hK.out _ _ ?_ (fun hHeld => ?_)
          · exact HK3a.out.alloc _
          clear hK K
          (try simp only [Act.put, List.setIfInBounds_toArray, List.set_cons_zero, List.set_cons_succ])
          refine wpAnyH_ready (rs := [6]) (by kernel_rfl) (by simp) ?_
          refine' AllReadyH.cons ?hiy8 (fun K hK => ?hry8) AllReadyH.nil
          case hiy8 => (simp only [List.getElem?_toArray, List.getElem?_cons_succ, List.getElem?_cons_zero]; rfl)
          case hry8 =>
            refine want_append (t := 40) rfl rfl rfl rfl HR.out ?_
            refine hK.out _ _ ?_ (fun hHeld => ?_)
            · exact HK3.out
            clear hK K
            (try simp only [Act.put, List.setIfInBounds_toArray, List.set_cons_zero, List.set_cons_succ])
            refine wpAnyH_ready (rs := [7]) (by kernel_rfl) (by simp) ?_
            refine' AllReadyH.cons ?hiy9 (fun K hK => ?hry9) AllReadyH.nil
            case hiy9 => (simp only [List.getElem?_toArray, List.getElem?_cons_succ, List.getElem?_cons_zero]; rfl)
            case hry9 =>
              have hc := HCO.out
              have hf := HFO.out
              go_simp
              refine hK.out _ _ ?_ (fun hHeld => ?_)
              · exact HJ.out.kb
              clear hK K
              (try simp only [Act.put, List.setIfInBounds_toArray, List.set_cons_zero, List.set_cons_succ])
              refine wpAnyH_done (by kernel_rfl) ?_ _
              exact FIN.out { tmps := #[], defers := [] }
    case hry4 =>
      go_simp
      refine HCL.out.mono ?_
      rintro e w3 ⟨u, rfl, hu, hb3⟩
      have hb3' : Below W.heap.size W w3 := ⟨hb3.os, hb3.tape, hb3.output, hb3.size, hb3.block⟩
      obtain ⟨v', w', hr, hO3, hK3, ⟨a2, n2, c2, rfl⟩, hJ, hT⟩ := HI.out.more x hpl (by have := HSZ.out; omega) (by omega) (by have := HSZ.out; omega) (by have := HB0.out; omega) hb3' hu 40
      obtain ⟨adu, capu, huf, -, -⟩ := hu.form
      subst huf
      obtain ⟨lnu, hlnu⟩ : ∃ j, j = (pieceC L x.1).length := ⟨_, rfl⟩
      rw [← hlnu] at hr hJ ⊢
      have HK3a := Lib.hid (HI.out.kb.below hb3' HI.out.kb.lt)
      have HC3 := Lib.hid ((HI.out.out.below hb3' HI.out.out.lt).cell 0)
      have HC3b : Hid ((w3.alloc (.cells #[.int .i64 k, .slice adu lnu capu, .string ⟨#[]⟩] 24)).cell? ⟨B0 + 1, 0, none⟩ = some (.slice a0 n0 c0)) := Lib.hid (((HI.out.out.below hb3' HI.out.out.lt).alloc (.cells #[.int .i64 k, .slice adu lnu capu, .string (oct.tx [])] 24)).cell 0)
      have HR := Lib.hid hr
      have HCO := Lib.hid (hO3.cell 0)
      have HFO := Lib.hid (hO3.frozen 0)
      have HK3 := Lib.hid hK3
      have HJ := Lib.hid hJ
      have FIN : Hid (∀ z : Act, ownPostG W0.heap.size (KpC (B0 + 1 + 1) (B0 + 1 + 1 + 1)) (CutIv k L W0.heap.size B0 (B0 + 1) w) (fun _ _ _ => False) (pre ++ [x]) W .normal z (w'.setCell ⟨B0 + 1, 0, none⟩ (.slice a2 n2 c2))) := Lib.hid fun _ => ⟨keepsFrom_turn hT (fun j o hj ho hh => by
      rcases hh with rfl | hh | hh
      · rw [HI.out.out.isCells hj] at ho; cases ho
      · obtain ⟨cs, hcs⟩ := HI.out.own.own_cells hh
        rw [hcs] at hj; cases hj; cases ho
      · rw [Array.getElem?_eq_none hh] at hj; cases hj), ⟨hT.size, hT.block _ (fun hh => by
          have := HSW.out; have := HSZ.out
          rcases hh with hh | hh | hh
          · omega
          · have := HI.out.new _ hh; omega
          · omega), hT.block _ (fun hh => by
          have := HSW.out; have := HSZ.out
          rcases hh with hh | hh | hh
          · omega
          · have := HI.out.new _ hh; omega
          · omega)⟩, _, _, hJ⟩
      clear hr hO3 hK3 hJ hT hb3 hb3' hu hlnu
      refine hK.out _ _ ?_ (fun hHeld => ?_)
      · exact HK3a.out
      clear hK K
      (try simp only [Act.put, List.setIfInBounds_toArray, List.set_cons_zero, List.set_cons_succ])
      refine' wpAnyH_take (i := 4) ?hiz10 (by kernel_rfl) (by kernel_rfl) (by kernel_rfl) ?hqz10 (Or.inl ⟨?hwz10, ?hyz10⟩) (by assumption) ?hrz10
      case hiz10 => (simp only [List.getElem?_toArray, List.getElem?_cons_succ, List.getElem?_cons_zero]; rfl)
      case hqz10 => exact fun _ _ _ h => h
      case hwz10 => rfl
      case hyz10 => (intro w0 hSw; (try dsimp only at hSw); go_simp; try with_reducible rfl)
      (try simp only [Act.put, List.setIfInBounds_toArray, List.set_cons_zero, List.set_cons_succ])
      refine wpAnyH_ready (rs := [0, 5]) (by kernel_rfl) (by simp) ?_
      refine' AllReadyH.cons ?hiy11 (fun K hK => ?hry11) (AllReadyH.cons ?hiy12 (fun K hK => ?hry12) AllReadyH.nil)
      case hiy11 => (simp only [List.getElem?_toArray, List.getElem?_cons_succ, List.getElem?_cons_zero]; rfl)
      case hiy12 => (simp only [List.getElem?_toArray, List.getElem?_cons_succ, List.getElem?_cons_zero]; rfl)
      case hry11 =>
        have hc := HC3.out
        go_simp
        refine hK.out _ _ ?_ (fun hHeld => ?_)
        · exact HK3a.out
        clear hK K
        (try simp only [Act.put, List.setIfInBounds_toArray, List.set_cons_zero, List.set_cons_succ])
        refine wpAnyH_ready (rs := [5]) (by kernel_rfl) (by simp) ?_
        refine' AllReadyH.cons ?hiy13 (fun K hK => ?hry13) AllReadyH.nil
        case hiy13 => (simp only [List.getElem?_toArray, List.getElem?_cons_succ, List.getElem?_cons_zero]; rfl)
        case hry13 =>
          go_simp
          refine hK.out _ _ ?_ (fun hHeld => ?_)
          · exact HK3a.out.alloc _
          clear hK K
          (try simp only [Act.put, List.setIfInBounds_toArray, List.set_cons_zero, List.set_cons_succ])
          refine wpAnyH_ready (rs := [6]) (by kernel_rfl) (by simp) ?_
          refine' AllReadyH.cons ?hiy14 (fun K hK => ?hry14) AllReadyH.nil
          case hiy14 => (simp only [List.getElem?_toArray, List.getElem?_cons_succ, List.getElem?_cons_zero]; rfl)
          case hry14 =>
            refine want_append (t := 40) rfl rfl rfl rfl HR.out ?_
            refine hK.out _ _ ?_ (fun hHeld => ?_)
            · exact HK3.out
            clear hK K
            (try simp only [Act.put, List.setIfInBounds_toArray, List.set_cons_zero, List.set_cons_succ])
            refine wpAnyH_ready (rs := [7]) (by kernel_rfl) (by simp) ?_
            refine' AllReadyH.cons ?hiy15 (fun K hK => ?hry15) AllReadyH.nil
            case hiy15 => (simp only [List.getElem?_toArray, List.getElem?_cons_succ, List.getElem?_cons_zero]; rfl)
            case hry15 =>
              have hc := HCO.out
              have hf := HFO.out
              go_simp
              refine hK.out _ _ ?_ (fun hHeld => ?_)
              · exact HJ.out.kb
              clear hK K
              (try simp only [Act.put, List.setIfInBounds_toArray, List.set_cons_zero, List.set_cons_succ])
              refine wpAnyH_done (by kernel_rfl) ?_ _
              exact FIN.out { tmps := #[], defers := [] }
      case hry12 =>
        go_simp
        refine hK.out _ _ ?_ (fun hHeld => ?_)
        · exact HK3a.out.alloc _
        clear hK K
        (try simp only [Act.put, List.setIfInBounds_toArray, List.set_cons_zero, List.set_cons_succ])
        refine wpAnyH_ready (rs := [0]) (by kernel_rfl) (by simp) ?_
        refine' AllReadyH.cons ?hiy16 (fun K hK => ?hry16) AllReadyH.nil
        case hiy16 => (simp only [List.getElem?_toArray, List.getElem?_cons_succ, List.getElem?_cons_zero]; rfl)
        case hry16 =>
          have hc := HC3b.out
          go_simp
          refine hK.out _ _ ?_ (fun hHeld => ?_)
          · exact HK3a.out.alloc _
          clear hK K
          (try simp only [Act.put, List.setIfInBounds_toArray, List.set_cons_zero, List.set_cons_succ])
          refine wpAnyH_ready (rs := [6]) (by kernel_rfl) (by simp) ?_
          refine' AllReadyH.cons ?hiy17 (fun K hK => ?hry17) AllReadyH.nil
          case hiy17 => (simp only [List.getElem?_toArray, List.getElem?_cons_succ, List.getElem?_cons_zero]; rfl)
          case hry17 =>
            refine want_append (t := 40) rfl rfl rfl rfl HR.out ?_
            refine hK.out _ _ ?_ (fun hHeld => ?_)
            · exact HK3.out
            clear hK K
            (try simp only [Act.put, List.setIfInBounds_toArray, List.set_cons_zero, List.set_cons_succ])
            refine wpAnyH_ready (rs := [7]) (by kernel_rfl) (by simp) ?_
            refine' AllReadyH.cons ?hiy18 (fun K hK => ?hry18) AllReadyH.nil
            case hiy18 => (simp only [List.getElem?_toArray, List.getElem?_cons_succ, List.getElem?_cons_zero]; rfl)
            case hry18 =>
              have hc := HCO.out
              have hf := HFO.out
              go_simp
              refine hK.out _ _ ?_ (fun hHeld => ?_)
              · exact HJ.out.kb
              clear hK K
              (try simp only [Act.put, List.setIfInBounds_toArray, List.set_cons_zero, List.set_cons_succ])
              refine wpAnyH_done (by kernel_rfl) ?_ _
              exact FIN.out { tmps := #[], defers := [] }
  case done =>
    rintro D ys W hD hys ⟨vo, P, hI⟩ hK
    have hform : ∃ a n c, vo = .slice a n c := by
      rcases hI.own.1.2 with ⟨rfl, _⟩ | ⟨g, cap, cur, rfl, _⟩
      · exact ⟨_, _, _, rfl⟩
      · exact ⟨_, _, _, rfl⟩
    obtain ⟨a, n, c, rfl⟩ := hform
    have hc : W.cell? ⟨B0 + 1, 0, none⟩ = some (.slice a n c) := hI.out.cell 0
    have hDw : w.heap.size ≤ D := Nat.le_trans hB.size hD
    have HI := Lib.hid hI
    have HK := Lib.hid hK
    clear hI hK
    gi_wp2
    refine ⟨by simp, .inl ⟨_, _, rfl, run_takeDeferred HK.out, ?_⟩⟩
    have ht : Turn (fun j => some D = some j ∨ W.heap.size ≤ j) W (W.putObj D (.deferred none)) := Turn.grown (grownBy_putObj' W D _) (fun k e => .inl e) (fun k hk => .inr hk)
    refine ⟨_, results_tmp rfl _ _ _, _, rfl, ?_, HI.out.below.trans (belowK_b (w := w) (Nat.le_refl _) W D _ _ hDw HK.out rfl rfl)⟩
    have hm := (HI.out.own.turn ht (fun j cs t z _ hj hh => by
      rcases hh with hh | hh
      · cases hh; rw [HK.out] at hj; cases hj
      · rw [Array.getElem?_eq_none hh] at hj; cases hj)).msv (fun p hp => by
      have h1 : p.1 ∈ P.map (·.1) := List.mem_map_of_mem hp
      rw [HI.out.ps] at h1
      obtain ⟨x, -, hx⟩ := List.mem_map.1 h1
      rw [← hx]
      show (pieceC L x.1).length ≤ _
      rw [pieceC_len]
      exact Nat.le_trans (Nat.min_le_left _ _) (by decide))
    rw [HI.out.ps] at hm
    rw [HE.out, ← hys, List.map_map]
    exact hm
  case stop =>
    rintro D c pre W _ _ h _
    exact h.elim
end Go.Proofs.Ytbfjljbllfjicaa.msg
