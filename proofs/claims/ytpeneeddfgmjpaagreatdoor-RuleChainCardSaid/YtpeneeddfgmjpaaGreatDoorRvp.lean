/-
  The landed header: Ident, Ahead.
  What the landed rule goes by, in plain functions: heights of parents, places of heads, the last four of them sorted.
-/
import Derived.Test.YtpeneeddfgmjpaaGreatDoorHlp
import Derived.Test.YtpeneeddfgmjpaaGreatDoorSumc
import Derived.Test.YtpeneeddfgmjpaaGreatDoorCmpb
import Derived.Test.YtpeneeddfgmjpaaGreatDoorRufa
namespace Go.Proofs.YtpeneeddfgmjpaaGreatDoor.hdr
open Go.RowKit Go.Proofs.YtpeneeddfgmjpaaGreatDoor.mem Go.Proofs.YtpeneeddfgmjpaaGreatDoor.sha Go.Proofs.YtpeneeddfgmjpaaGreatDoor.ids
open Go.Proofs.YtpeneeddfgmjpaaGreatDoor.opn (b1 b2 b4 num txt idl byte rd rdN rdT rdI rdS rdL St Reads Stays endE zid mkId)

set_option maxHeartbeats 4000000 in
set_option maxRecDepth 100000 in
theorem lident_any (h : Hd) (v : Value) (w : World) (hT : Tabs w) (hr : h.commit.length = 32) (hv : RdV w v h.parents) (hm : h.parents.length ≤ 1000) (ht : h.topic.length ≤ 140737488351232) :
  Calls Tryz.prog 33 #[hdv h v] w fun e w' => e = .returned (.tuple #[idv (idH h).1, .int .i64 (idH h).2]) ∧ Below w.heap.size w w' := by
 obtain ⟨w1, hw1⟩ : ∃ u, u = (w.alloc (.cells (hdc h v).toArray 26)).alloc (.cells (bv zid).toArray 24) := ⟨_, rfl⟩
 obtain ⟨S, hS⟩ : ∃ S, S = w.heap.size := ⟨_, rfl⟩
 have hX : Blk w1 S 26 (hdc h v).toArray := by rw [hw1, hS]; exact (Blk.new w _ _).alloc _
 have hB : Below w.heap.size w w1 := by rw [hw1]; exact ((Below.refl _ _).alloc (Nat.le_refl _) _).alloc (by simp) _
 have hv1 := hv.next hB
 have HX := Lib.hid hX
 have HB := Lib.hid hB
 have HS := Lib.hid hS
 have HW := Lib.hid hw1
 have HR := Lib.hid hr
 have HV := Lib.hid hv1
 have HL := Lib.hid hm
 have hY : Blk w1 (S + 1) 24 (bv zid).toArray := by rw [hw1, hS]; exact Blk.at_ (by simp) _ _
 have HY := Lib.hid hY
 have HLD := Lib.hid (run_load_hd hX hr)
 have hput := lput_any h v w1 (hT.next hB) hr hv1 hm ht
 have HT := Lib.hid (hT.next hB)
 have hid : idH h = if checkH h ≠ 0 then (zid, checkH h) else (digest (enH h), 0) := rfl
 by_cases h0 : checkH h = 0
 ·
  rw [put_ok h0] at hput
  have hen := en_len h0 hr hv1.ok
  obtain ⟨s, hs⟩ : ∃ s, s = oct.tx (enH h) := ⟨_, rfl⟩
  simp only at hput
  rw [← hs] at hput
  have HPUT := Lib.hid hput
  have hsum := fun u (hu : sha.Tab u) => sum_any s u hu (by rw [hs, oct.tx_size]; omega)
  rw [hs, oct.tx_list, ← hs] at hsum
  have HSUM := Lib.hid hsum
  have HE : Hid (idH h = (digest (enH h), 0)) := Lib.hid (by rw [hid, if_neg (fun hh => hh h0)])
  obtain ⟨y, hy⟩ : ∃ y, y = digest (enH h) := ⟨_, rfl⟩
  have HYL : Hid (y.length = 32) := Lib.hid (by rw [hy]; exact digest_len _)
  rw [← hy] at HSUM HE
  clear hX hB hv1 hS hw1 hr hv hm ht hY hput hT hid h0 hen hs hsum hy
  unfold hdv
  go_enter Tryz.func33, Tryz.ntmps33
  go_upto_region 1 with fail
  refine wp_at HW.out.symm ?_
  rw [← HS.out]
  clear HW
  go_wp2_with (first
   | ((with_reducible refine step_load (t := 26) (x := .tmp 1) (p := ?lpd1) (v := ?lvd1) ?lgd1 ?lod1 ?lxd1 ?lrd1 ?lhd1); (case lgd1 => rfl); (case lod1 => rfl); (case lxd1 => rfl); (case lrd1 => exact HLD.out))
   | (go_at_call 54; (with_reducible refine HPUT.out.mono ?_); rintro e w2 ⟨rfl, hb2⟩; have hY2 := HY.out.below hb2 HY.out.lt; have HY2 := Lib.hid hY2; have HB2 := Lib.hid hb2; have HT2 := Lib.hid (HT.out.next hb2).1; clear hY2 hb2)
   | (go_at_call 55; (with_reducible refine (HSUM.out _ HT2.out).mono ?_); rintro e w3 ⟨rfl, hb3⟩; have hY3 := HY2.out.below hb3 HY2.out.lt; have hrun := run_store_idw hY3 zid32 HYL.out; have hst := setRow_heap w3 (S + 1) _ (bv y).toArray _ _ hY3)
   | ((with_reducible refine step_store_run (t := 24) (x := .tmp 2) (y := .tmp 16) (p := ?sps1) (v := ?svs1) (w' := ?sws1) ?sgs1 ?sos1 ?sxs1 ?sys1 ?srs1 ?shs1); (case sgs1 => rfl); (case sos1 => rfl); (case sxs1 => rfl); (case sys1 => rfl); (case srs1 => exact hrun)))
  refine bodyPost_ret (results_id rfl _ _ (S + 1) _ y rfl hst HYL.out) rfl ⟨by rw [HE.out]; rfl, ?_⟩
  exact below_row' (HB.out.trans ((HB2.out.trans (hb3.mono HB2.out.size)).mono HB.out.size)) (by rw [HS.out]; exact Nat.le_succ _) _
 ·
  rw [put_no h0] at hput
  simp only at hput
  have HE : Hid (idH h = (zid, checkH h)) := Lib.hid (by rw [hid, if_pos h0])
  obtain ⟨c, hc⟩ : ∃ c, c = checkH h := ⟨_, rfl⟩
  rw [← hc] at hput HE h0
  have HPUT := Lib.hid hput
  have hne : (c != 0) = true := bne_iff_ne.2 h0
  clear hX hB hv1 hS hw1 hr hv hm ht hY hput hT hid h0 hc
  unfold hdv
  go_enter Tryz.func33, Tryz.ntmps33
  go_upto_region 1 with fail
  refine wp_at HW.out.symm ?_
  rw [← HS.out]
  clear HW
  go_wp2_with (first
   | ((with_reducible refine step_load (t := 26) (x := .tmp 1) (p := ?lpd2) (v := ?lvd2) ?lgd2 ?lod2 ?lxd2 ?lrd2 ?lhd2); (case lgd2 => rfl); (case lod2 => rfl); (case lxd2 => rfl); (case lrd2 => exact HLD.out))
   | (go_at_call 54; (with_reducible refine HPUT.out.mono ?_); rintro e w2 ⟨rfl, hb2⟩; have hY2 := HY.out.below hb2 HY.out.lt; have hrun := run_store_idw hY2 zid32 zid32; have hst := setRow_heap w2 (S + 1) _ (bv zid).toArray _ _ hY2)
   | ((with_reducible refine step_build (t := 24) (parts := #[]) (ps := #[]) (v := ?bvz1) ?bgz1 ?boz1 ?bxz1 ?brz1 ?bhz1); (case bgz1 => rfl); (case boz1 => rfl); (case bxz1 => simp); (case brz1 => exact run_build_zi _))
   | ((with_reducible refine step_store_run (t := 24) (x := .tmp 2) (y := .tmp 13) (p := ?sps2) (v := ?svs2) (w' := ?sws2) ?sgs2 ?sos2 ?sxs2 ?sys2 ?srs2 ?shs2); (case sgs2 => rfl); (case sos2 => rfl); (case sxs2 => rfl); (case sys2 => rfl); (case srs2 => exact hrun)))
  refine bodyPost_ret (results_id rfl _ _ (S + 1) _ zid rfl hst zid32) rfl ⟨by rw [HE.out]; rfl, ?_⟩
  exact below_row' (HB.out.trans (hb2.mono HB.out.size)) (by rw [HS.out]; exact Nat.le_succ _) _

set_option maxHeartbeats 4000000 in
set_option maxRecDepth 100000 in
theorem lahead_any (x : Int) (a : List UInt8) (y : Int) (b : List UInt8) (w : World) (ha : a.length = 32) (hb : b.length = 32) :
  Calls Tryz.prog 38 #[.int .i64 x, idv a, .int .i64 y, idv b] w fun e w' => e = .returned (.bool (aheadB x a y b)) ∧ Below w.heap.size w w' := by
 obtain ⟨w1, hw1⟩ : ∃ u, u = (w.alloc (.cells (bv a).toArray 24)).alloc (.cells (bv b).toArray 24) := ⟨_, rfl⟩
 obtain ⟨S, hS⟩ : ∃ S, S = w.heap.size := ⟨_, rfl⟩
 have hX : Blk w1 S 24 (bv a).toArray := by rw [hw1, hS]; exact (Blk.new w _ _).alloc _
 have hY : Blk w1 (S + 1) 24 (bv b).toArray := by rw [hw1, hS]; exact Blk.at_ (by simp) _ _
 have hB : Below w.heap.size w w1 := by rw [hw1]; exact ((Below.refl _ _).alloc (Nat.le_refl _) _).alloc (by simp) _
 have hla := box_load hX ha 0
 have hlb := box_load hY hb 0
 have HB := Lib.hid hB
 have HS := Lib.hid hS
 have HW := Lib.hid hw1
 have HCM := Lib.hid (fun u => compare_any a b u ha hb)
 have HE : Hid (aheadB x a y b = (decide (x < y) || (decide (x = y) && decide (cmpL a b < 0)))) := Lib.hid rfl
 clear hX hY hB hS hw1 ha hb
 unfold idv
 obtain ⟨c, hc⟩ : ∃ c, c = cmpL a b := ⟨_, rfl⟩
 rw [← hc] at HCM HE
 clear hc
 by_cases h2 : x = y
 ·
  have HE : Hid (aheadB x a y b = decide (c < 0)) := Lib.hid (by rw [HE.out, decide_eq_false (by omega : ¬ x < y), decide_eq_true h2]; rfl)
  have e2 : (x != y) = false := by rw [h2]; simp
  clear h2
  go_enter Tryz.func38, Tryz.ntmps38
  go_upto_region 1 with fail
  refine wp_at HW.out.symm ?_
  rw [← HS.out]
  clear HW
  go_wp2_with (first
   | ((with_reducible refine step_load (t := 24) (x := .tmp 5) (p := ?lpa1) (v := ?lva1) ?lga1 ?loa1 ?lxa1 ?lra1 ?lha1); (case lga1 => rfl); (case loa1 => rfl); (case lxa1 => rfl); (case lra1 => exact hla))
   | ((with_reducible refine step_load (t := 24) (x := .tmp 7) (p := ?lpa2) (v := ?lva2) ?lga2 ?loa2 ?lxa2 ?lra2 ?lha2); (case lga2 => rfl); (case loa2 => rfl); (case lxa2 => rfl); (case lra2 => exact hlb))
   | (go_at_call 68; go_loud (refine (HCM.out _).mono ?_); rintro e w2 ⟨rfl, hb2⟩))
  go_ret
  exact ⟨by rw [HE.out]; rfl, HB.out.trans (hb2.mono HB.out.size)⟩
 ·
  have HE : Hid (aheadB x a y b = decide (x < y)) := Lib.hid (by rw [HE.out, decide_eq_false h2]; simp)
  have e2 : (x != y) = true := bne_iff_ne.2 h2
  clear h2
  go_enter Tryz.func38, Tryz.ntmps38
  go_upto_region 1 with fail
  refine wp_at HW.out.symm ?_
  rw [← HS.out]
  clear HW
  go_wp2_with fail
  go_ret
  exact ⟨by rw [HE.out]; rfl, HB.out⟩
end Go.Proofs.YtpeneeddfgmjpaaGreatDoor.hdr

namespace Go.Proofs.YtpeneeddfgmjpaaGreatDoor.rul
open Go.Proofs.YtpeneeddfgmjpaaGreatDoor.hdr
open Go.Proofs.YtpeneeddfgmjpaaGreatDoor.ids (cmpL withL setL okIds Sorted)

/-! Heights. -/
def aboveL (l : List Int) : Int := min (l.foldl max 0) 1073741824 + 1
theorem up_min : ∀ (L : List Hd) (m : Int), L.foldl up (min m 1073741824) = min ((L.map (·.height)).foldl max m) 1073741824
 | [], _ => rfl
 | h :: L, m => by
  rw [List.foldl_cons, List.map_cons, List.foldl_cons, ← up_min L (max m h.height)]
  congr 1
  unfold up
  omega
theorem above_height (L : List Hd) : aboveL (L.map (·.height)) = heightR L := by
 unfold aboveL heightR
 rw [← up_min L 0]
 rfl
theorem fmax_ge : ∀ (l : List Int) (m : Int), m ≤ l.foldl max m
 | [], _ => Int.le_refl _
 | a :: l, m => Int.le_trans (by omega) (fmax_ge l (max m a))
theorem fmax_mem : ∀ (l : List Int) (m a : Int), a ∈ l → a ≤ l.foldl max m
 | b :: l, m, a, h => by
  rcases List.mem_cons.1 h with rfl | h
  ·
   exact Int.le_trans (by omega) (fmax_ge l (max m a))
  ·
   exact fmax_mem l _ a h
theorem fmax_le : ∀ (l : List Int) (m B : Int), m ≤ B → (∀ a ∈ l, a ≤ B) → l.foldl max m ≤ B
 | [], _, _, h, _ => h
 | a :: l, m, B, h, hl => fmax_le l _ B (by have := hl a List.mem_cons_self; omega) fun b hb => hl b (List.mem_cons_of_mem _ hb)
theorem above_ext {l k : List Int} (h : ∀ a, a ∈ l ↔ a ∈ k) : aboveL l = aboveL k := by
 have e1 := fmax_le l 0 (k.foldl max 0) (fmax_ge k 0) fun a ha => fmax_mem k 0 a ((h a).1 ha)
 have e2 := fmax_le k 0 (l.foldl max 0) (fmax_ge l 0) fun a ha => fmax_mem l 0 a ((h a).2 ha)
 unfold aboveL
 omega

/-! Heights by ids: of several of one id the last one counts. -/
def toldF (K : List Hd) (x : Id) : Option Int := (K.reverse.find? (isId x)).map (·.height)
theorem told_nil (x : Id) : toldF [] x = none := rfl
theorem told_snoc (K : List Hd) (k : Hd) (x : Id) : toldF (K ++ [k]) x = if isId x k = true then some k.height else toldF K x := by
 unfold toldF
 rw [List.reverse_append, List.reverse_singleton, List.singleton_append, List.find?_cons]
 by_cases h : isId x k = true
 ·
  rw [if_pos h, h]; rfl
 ·
  rw [if_neg h, (Bool.not_eq_true _).mp h]
theorem told_none {K : List Hd} {x : Id} : toldF K x = none ↔ knows K x = false := by
 unfold toldF
 rw [Option.map_eq_none_iff, List.find?_eq_none, ← knows_rev]
 unfold knows
 rw [← Bool.not_eq_true, List.any_eq_true]
 constructor
 ·
  rintro h ⟨a, ha, e⟩; exact h a ha e
 ·
  intro h a ha e; exact h ⟨a, ha, e⟩
theorem told_some {K : List Hd} {x : Id} {z : Int} (h : toldF K x = some z) : knows K x = true ∧ (got K.reverse x).height = z := by
 refine ⟨?_, ?_⟩
 ·
  cases hk : knows K x with
  | true => rfl
  | false => rw [told_none.2 hk] at h; cases h
 ·
  unfold toldF at h
  unfold got
  cases hq : K.reverse.find? (isId x) with
  | none => rw [hq] at h; cases h
  | some g => rw [hq] at h; exact Option.some.inj h
/-- the verdict, by heights told -/
theorem verdictL_no {h : Hd} {K : List Hd} (h0 : checkH h = 0) {x : Id} (hx : x ∈ h.parents) (hn : toldF K x = none) : verdictL h K = 11 := by
 unfold verdictL verdictR
 rw [if_neg (by rw [h0]; simp), unknown_rev, if_pos]
 intro e
 have := unknown_nil.1 e x hx
 rw [told_none.1 hn] at this
 cases this
theorem verdictL_at {h : Hd} {K : List Hd} (h0 : checkH h = 0) {l : List Int} (hl : h.parents.map (toldF K) = l.map some) : verdictL h K = if h.height = aboveL l then 0 else 12 := by
 have hk : ∀ x ∈ h.parents, ∃ z, toldF K x = some z := fun x hx => by
  have : toldF K x ∈ h.parents.map (toldF K) := List.mem_map_of_mem hx
  rw [hl] at this
  obtain ⟨z, -, e⟩ := List.mem_map.1 this
  exact ⟨z, e.symm⟩
 have e2 : h.parents.map (fun p => (got K.reverse p).height) = l := by
  have e3 : (h.parents.map (fun p => (got K.reverse p).height)).map some = l.map some := by
   rw [← hl, List.map_map]
   refine List.map_congr_left fun p hp => ?_
   obtain ⟨z, hz⟩ := hk p hp
   rw [hz, Function.comp, (told_some hz).2]
  exact (List.map_inj_right (fun _ _ e => Option.some.inj e)).1 e3
 unfold verdictL verdictR
 rw [if_neg (by rw [h0]; simp), unknown_rev, if_neg, ← above_height, List.map_map, show ((fun x : Hd => x.height) ∘ got K.reverse) = (fun p => (got K.reverse p).height) from rfl, e2]
 ·
  by_cases e : h.height = aboveL l
  ·
   rw [if_pos e, if_neg (fun hh => hh e.symm)]
  ·
   rw [if_neg e, if_pos (fun hh => e hh.symm)]
 ·
  rw [ne_eq, Decidable.not_not, unknown_nil]
  intro p hp
  obtain ⟨z, hz⟩ := hk p hp
  exact (told_some hz).1

/-! Places. -/
abbrev Ky := Int × Id
def ky (p : Pr) : Ky := (p.1.height, p.2)
def aheadK (x y : Ky) : Bool := aheadB x.1 x.2 y.1 y.2
theorem aheadK_eq {x y : Ky} (h1 : aheadK x y = false) (h2 : aheadK y x = false) : x = y := by
 have h := ahead_total x.1 y.1 x.2 y.2
 unfold aheadK at h1 h2
 rw [h1, h2] at h
 have h3 : (decide (x.1 = y.1) && decide (x.2 = y.2)) = true := by
  cases hq : (decide (x.1 = y.1) && decide (x.2 = y.2)) with
  | true => rfl
  | false => rw [hq] at h; cases h
 rw [Bool.and_eq_true, decide_eq_true_eq, decide_eq_true_eq] at h3
 exact Prod.ext h3.1 h3.2
theorem aheadK_irr (x : Ky) : aheadK x x = false := by
 unfold aheadK
 rw [← Bool.not_eq_true, ahead_iff, ids.cmpL_self]; omega
theorem aheadK_trans {x y z : Ky} (h1 : aheadK x y = true) (h2 : aheadK y z = true) : aheadK x z = true := ahead_trans h1 h2
/-- not ahead, and not ahead: not ahead -/
theorem aheadK_ntrans {x y z : Ky} (h1 : aheadK x y = false) (h2 : aheadK y z = false) : aheadK x z = false := by
 rw [← Bool.not_eq_true]
 intro h
 by_cases hy : aheadK y x = true
 ·
  have := aheadK_trans hy h
  rw [h2] at this; cases this
 ·
  have e := aheadK_eq h1 ((Bool.not_eq_true _).mp hy)
  rw [e, h2] at h; cases h
theorem ahead_ky (x y : Pr) : aheadP x y = aheadK (ky x) (ky y) := rfl
theorem best_max (L : List Pr) : ∀ i, ∀ j, j < i → aheadP (L.getD (best L i) zpr) (L.getD j zpr) = false
 | i + 1, j, hj => by
  unfold best
  split
  ·
   rename_i h
   rcases Nat.lt_or_ge j i with hj | hj
   ·
    rw [← Bool.not_eq_true]
    intro h2
    rw [ahead_ky] at h h2
    have := aheadK_trans h h2
    rw [← ahead_ky, best_max L i j hj] at this; cases this
   ·
    have : j = i := by omega
    subst this
    rw [ahead_ky]
    exact aheadK_irr _
  ·
   rename_i h
   rcases Nat.lt_or_ge j i with hj | hj
   ·
    exact best_max L i j hj
   ·
    have : j = i := by omega
    subst this
    exact (Bool.not_eq_true _).mp h
theorem erase_perm {α : Type} : ∀ (L : List α) (k : Nat) (h : k < L.length), L.Perm (L[k] :: L.eraseIdx k)
 | a :: L, 0, _ => List.Perm.refl _
 | a :: L, k + 1, h => ((erase_perm L k (Nat.lt_of_succ_lt_succ h)).cons a).trans (List.Perm.swap ..)
/-- what is taken, by the places sorted -/
theorem take_top : ∀ (n : Nat) (t : List Hd) (p : List Id) (L : List Pr) (D : List Ky), D.Perm (L.map ky) → D.Pairwise (fun x y => aheadK y x = false) →
  (takeR n t p L).1.map (·.height) = t.map (·.height) ++ (D.reverse.take n).map (·.1) ∧ (takeR n t p L).2 = ((D.reverse.take n).map (·.2)).foldl withL p
 | 0, t, p, L, D, _, _ => by simp [takeR]
 | n + 1, t, p, L, D, hp, hs => by
  unfold takeR
  by_cases h0 : L = []
  ·
   subst h0
   rw [if_pos rfl]
   have : D = [] := hp.eq_nil
   subst this
   simp
  rw [if_neg h0]
  have hl : 0 < L.length := List.length_pos_iff.2 h0
  have hb := best_lt L L.length (Nat.le_refl _) hl
  have hm := best_max L L.length
  obtain ⟨k, hk⟩ : ∃ k, k = best L L.length := ⟨_, rfl⟩
  rw [← hk] at hb hm ⊢
  obtain ⟨x, hx⟩ : ∃ x, x = L.getD k zpr := ⟨_, rfl⟩
  have hxg : L[k] = x := by rw [hx, List.getD_eq_getElem?_getD, List.getElem?_eq_getElem hb, Option.getD_some]
  rw [← hx] at hm ⊢
  have hD : D ≠ [] := by
   rintro rfl
   have := hp.symm.eq_nil
   rw [List.map_eq_nil_iff] at this
   exact h0 this
  obtain ⟨D', z, rfl⟩ : ∃ D' z, D = D' ++ [z] := ⟨_, _, (List.dropLast_concat_getLast hD).symm⟩
  rw [List.pairwise_append] at hs
  have hperm : (L.map ky).Perm (ky x :: (L.eraseIdx k).map ky) := by
   have := (erase_perm L k hb).map ky
   rw [hxg] at this
   exact this
  have hz : ky x = z := by
   have hzm : z ∈ L.map ky := hp.mem_iff.1 (List.mem_append_right _ (List.mem_singleton.2 rfl))
   obtain ⟨y, hy, e⟩ := List.mem_map.1 hzm
   obtain ⟨j, hj, ej⟩ := List.getElem_of_mem hy
   have h1 := hm j hj
   rw [List.getD_eq_getElem?_getD, List.getElem?_eq_getElem hj, Option.getD_some, ej, ahead_ky, e] at h1
   have hxm : ky x ∈ D' ++ [z] := hp.mem_iff.2 (hperm.mem_iff.2 List.mem_cons_self)
   rcases List.mem_append.1 hxm with h | h
   ·
    exact aheadK_eq h1 (hs.2.2 _ h z (List.mem_singleton.2 rfl))
   ·
    exact List.mem_singleton.1 h
  have hp' : D'.Perm ((L.eraseIdx k).map ky) := by
   have h1 : (z :: D').Perm (ky x :: (L.eraseIdx k).map ky) := (List.perm_append_comm (l₁ := [z]) (l₂ := D')).trans (hp.trans hperm)
   rw [hz] at h1
   exact h1.cons_inv
  obtain ⟨i1, i2⟩ := take_top n (t ++ [x.1]) (withL p x.2) (L.eraseIdx k) D' hp' hs.1
  rw [i1, i2, List.reverse_append, List.reverse_singleton, List.singleton_append, List.take_succ_cons, ← hz]
  constructor
  ·
   simp [ky]
  ·
   simp [ky]
theorem last_rev {α : Type} (D : List α) (n : Nat) : D.reverse.take n = (D.drop (D.length - n)).reverse := by
 rw [List.take_reverse]
/-- what is made behind heads, by their places sorted -/
theorem made_places {heads : List Hd} {D : List Ky} (hp : D.Perm ((pairs heads).map ky)) (hs : D.Pairwise fun x y => aheadK y x = false) (t : List UInt8) (a q z : Int) (c : Id) :
  madeR heads t a q z c = ⟨setL ((D.drop (D.length - 4)).map (·.2)), aboveL ((D.drop (D.length - 4)).map (·.1)), t, a, q, z, c⟩ := by
 obtain ⟨h1, h2⟩ := take_top 4 [] [] (pairs heads) D hp hs
 rw [last_rev, List.map_reverse] at h1 h2
 unfold madeR
 rw [← above_height, h1, h2]
 congr 1
 ·
  exact ids.setL_same _ _ fun y => List.mem_reverse
 ·
  exact above_ext fun y => by simp
theorem err_drop : ∀ (L : List Hd) (i : Nat), (∀ h ∈ L.take i, (idH h).2 = 0) → errR L = errR (L.drop i)
 | _, 0, _ => rfl
 | [], i + 1, _ => rfl
 | h :: L, i + 1, hh => by
  rw [List.drop_succ_cons, ← err_drop L i fun g hg => hh g (by rw [List.take_succ_cons]; exact List.mem_cons_of_mem _ hg)]
  show (if (idH h).2 ≠ 0 then (idH h).2 else errR L) = _
  rw [if_neg]
  rw [hh h (by rw [List.take_succ_cons]; exact List.mem_cons_self)]
  simp
theorem err_at {L : List Hd} {i : Nat} (hi : i < L.length) (hh : ∀ h ∈ L.take i, (idH h).2 = 0) (he : (idH (L.getD i zhd)).2 ≠ 0) : errR L = (idH (L.getD i zhd)).2 := by
 rw [err_drop L i hh, List.drop_eq_getElem_cons hi]
 have e : L.getD i zhd = L[i] := by rw [List.getD_eq_getElem?_getD, List.getElem?_eq_getElem hi, Option.getD_some]
 rw [e] at he ⊢
 show (if (idH L[i]).2 ≠ 0 then (idH L[i]).2 else errR (L.drop (i + 1))) = _
 rw [if_pos he]
theorem err_none {L : List Hd} (hh : ∀ h ∈ L, (idH h).2 = 0) : errR L = 0 := by
 rw [err_drop L L.length (by rw [List.take_length]; exact hh), List.drop_length]; rfl
end Go.Proofs.YtpeneeddfgmjpaaGreatDoor.rul
