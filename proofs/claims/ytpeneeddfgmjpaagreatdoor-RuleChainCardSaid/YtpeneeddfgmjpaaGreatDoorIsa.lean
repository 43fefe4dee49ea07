/-
 slices.Clone of ids; a list of the call's own sorted; ident.Set.
-/
import Derived.Test.YtpeneeddfgmjpaaGreatDoorIsac
import Derived.Test.YtpeneeddfgmjpaaGreatDoorSrta
import Derived.Test.YtpeneeddfgmjpaaGreatDoorIdsqa
import Derived.Test.YtpeneeddfgmjpaaGreatDoorIdst
namespace Go.Proofs.YtpeneeddfgmjpaaGreatDoor.ids
open Go.RowKit Go.Proofs.YtpeneeddfgmjpaaGreatDoor.mem Go.Proofs.YtpeneeddfgmjpaaGreatDoor.sha Go.Proofs.YtpeneeddfgmjpaaGreatDoor.srt

/-- a list of the call's own as a row that is being sorted, and back -/
theorem OwnI.st {w : World} {F : Nat → Prop} {g n cap : Nat} {L : List (List UInt8)} (h : OwnI w F (.slice (some ⟨g, 0, none⟩) n cap) L) : ∃ d : Array I32, lst d = L ∧ n = L.length ∧ St g 0 L.length d w := by
 obtain ⟨d, hd⟩ := lst_of L h.1
 rcases h.2.1.2 with ⟨e, _⟩ | ⟨g', cap', cur, e, hb, hh, hle, hcm, hcs, htk⟩
 ·
  cases e
 ·
  cases e
  have hlen : d.size = L.length := by rw [← lst_len, hd]
  refine ⟨d, hd, rfl, St.of hh hlen fun k v hv => ?_⟩
  rw [hd, ← htk, List.getElem?_take] at hv
  split at hv
  ·
   rw [Nat.zero_add, ← Array.getElem?_toList]; exact hv
  ·
   cases hv
theorem St_own {w : World} {F : Nat → Prop} {g n cap : Nat} {d : Array I32} {cur : Array Value} (h : St g 0 n d w) (hh : w.heap[g]? = some (.cells cur 24 (0, 0))) (hcs : cur.size = cap * 32) (h1 : n ≤ cap) (h2 : cap ≤ maxLen) (hF : F g) :
  OwnI w F (.slice (some ⟨g, 0, none⟩) n cap) (lst d) := by
 have hlen : (lst d).length = n := (lst_len d).trans h.size
 have hfl := fl_len (lst_ok d)
 rw [hlen] at hfl
 refine ⟨lst_ok d, ⟨by rw [hfl, hlen], .inr ⟨g, cap, cur, by rw [hlen], Nat.zero_le _, hh, by rw [hlen]; exact h1, h2, hcs, ?_⟩⟩, fun k hk => by injection hk with hk; subst hk; exact hF⟩
 rw [hlen]
 apply List.ext_getElem?
 intro k
 rw [List.getElem?_take, Array.getElem?_toList]
 by_cases hk : k < n * 32
 ·
  rw [if_pos hk, List.getElem?_eq_getElem (by rw [hfl]; exact hk)]
  have := h.cells k _ (List.getElem?_eq_getElem (by rw [hfl]; exact hk))
  rw [Nat.zero_add, (show Blk w g 24 cur from hh).cell k] at this
  exact this
 ·
  rw [if_neg hk, List.getElem?_eq_none (by rw [hfl]; omega)]

theorem ahead_own {w : World} {F : Nat → Prop} {v : Value} {L : List (List UInt8)} (h : OwnI w F v L) {i j : Nat} (hi : i < L.length) (hj : j < L.length) :
  Calls Tryz.prog 70 #[v, .int .i64 i, .int .i64 j] w fun e w' => e = .returned (.bool (decide (cmpL (L.getD i []) (L.getD j []) < 0))) ∧ Below w.heap.size w w' := by
 obtain ⟨ad, cap, rfl, hr, _⟩ := h.form
 obtain ⟨b, off, rfl, _⟩ := hr.load h.1 hi
 have h0 : off = 0 := by
  rcases h.2.1.2 with ⟨e, _⟩ | ⟨g, c, cur, e, _⟩
  ·
   cases e
  ·
   cases e; rfl
 subst h0
 obtain ⟨d, hd, _, hs⟩ := h.st
 have hsz : d.size = L.length := by rw [← lst_len, hd]
 have hA := ahead_any b 0 L.length cap d w i j hs hi hj
 have e : lt d[i]! d[j]! = decide (cmpL (L.getD i []) (L.getD j []) < 0) := by
  rw [← hd, lst_get d (by omega), lst_get d (by omega)]
  rfl
 rw [e] at hA
 exact hA

/-- in order, though some may come more than once -/
def Weak (S : List (List UInt8)) : Prop := ∀ i j, i < j → j < S.length → ¬ cmpL (S.getD j []) (S.getD i []) < 0
theorem sort_own {w : World} {F : Nat → Prop} {v : Value} {L : List (List UInt8)} (h : OwnI w F v L) (hm : L.length ≤ 1000000) :
  Calls Tryz.prog 71 #[.iface 100 v, .func (.func 70) #[v] #[]] w fun e w' => e = .returned (.tuple #[]) ∧ ∃ S, S.Perm L ∧ Weak S ∧ OwnI w' F v S ∧ Turn (fun k => v.ownBlock = some k ∨ w.heap.size ≤ k) w w' := by
 by_cases h2 : 2 ≤ L.length
 ·
  rcases h.2.1.2 with ⟨rfl, hn⟩ | ⟨g, cap, cur, rfl, hb, hh, hle, hcm, hcs, htk⟩
  ·
   omega
  obtain ⟨d, hd, _, hs⟩ := h.st
  have hsz : d.size = L.length := by rw [← lst_len, hd]
  refine (slice_any g 0 L.length cap d w hs h2 (by omega)).mono ?_
  rintro e w' ⟨rfl, d', hp, hq, hst, ht⟩
  obtain ⟨cur', hc', he'⟩ := ht.keeps _ _ _ hh
  refine ⟨rfl, lst d', ?_, ?_, St_own hst hc' (he'.trans hcs) hle hcm (h.2.2 g rfl), ht.turn.mono fun k hk => hk.imp (fun e => by rw [e]; rfl) id⟩
  ·
   have hpp := hp.2.2
   have e1 : d'.extract 0 L.length = d' := by rw [← hst.size]; exact Array.extract_size
   have e2 : d.extract 0 L.length = d := by rw [← hsz]; exact Array.extract_size
   rw [e1, e2] at hpp
   rw [← hd]
   exact hpp.map _
  ·
   intro i j hij hj
   rw [lst_len, hst.size] at hj
   have := hq i j (Nat.zero_le _) hij hj
   rw [lst_get d' (by rw [hst.size]; exact hj), lst_get d' (by rw [hst.size]; omega)]
   exact of_decide_eq_false this
 ·
  obtain ⟨ad, cap, rfl, _⟩ := h.form
  refine (slice_tiny ad L.length cap w (by omega) _ _ _).mono ?_
  rintro e w' ⟨rfl, hb⟩
  exact ⟨rfl, L, List.Perm.refl _, fun i j hij hj => by omega, h.below hb, (Turn.ofBelow hb).mono fun k hk => .inr hk⟩

/-- what the loop of Set keeps: L' begins with the set of what has been seen -/
structure Comp (S L : List (List UInt8)) (i n : Nat) : Prop where
 len : L.length = S.length
 le : n ≤ i
 tail : ∀ j, i ≤ j → L.getD j [] = S.getD j []
 sorted : Sorted (L.take n)
 mem : ∀ y, y ∈ L.take n ↔ y ∈ S.take i
theorem Comp.start (S : List (List UInt8)) : Comp S S 0 0 := ⟨rfl, Nat.le_refl _, fun _ _ => rfl, by rw [List.take_zero]; exact List.Pairwise.nil, fun y => by simp only [List.take_zero]⟩
theorem take_succ' (S : List (List UInt8)) {i : Nat} (hi : i < S.length) : S.take (i + 1) = S.take i ++ [S.getD i []] := by
 rw [List.take_add_one, List.getD_eq_getElem?_getD, List.getElem?_eq_getElem hi]
 rfl
theorem Comp.pos {S L : List (List UInt8)} {i n : Nat} (h : Comp S L i n) (hi : 0 < i) (hl : i ≤ S.length) : 0 < n := by
 rcases Nat.eq_zero_or_pos n with rfl | hn
 ·
  have := (h.mem (S.getD 0 [])).2 (by
   obtain ⟨k, rfl⟩ : ∃ k, i = k + 1 := ⟨i - 1, by omega⟩
   cases S with
   | nil => simp at hl
   | cons x S => simp)
  rw [List.take_zero] at this
  cases this
 ·
  exact hn
theorem take_set_succ (L : List (List UInt8)) {n : Nat} (hn : n < L.length) (x : List UInt8) : (L.set n x).take (n + 1) = L.take n ++ [x] := by
 rw [take_succ' _ (by rw [List.length_set]; exact hn), List.take_set_of_le (Nat.le_refl _), List.getD_eq_getElem?_getD, List.getElem?_set_self hn]
 rfl
theorem Comp.keep {S L : List (List UInt8)} {i n : Nat} (h : Comp S L i n) (hi : i < S.length) (hlt : n = 0 ∨ cmpL (L.getD (n - 1) []) (L.getD i []) < 0) : Comp S (L.set n (L.getD i [])) (i + 1) (n + 1) := by
 have hle := h.le
 have hlen := h.len
 refine ⟨by rw [List.length_set]; exact h.len, by omega, fun j hj => ?_, ?_, fun y => ?_⟩
 ·
  rw [List.getD_eq_getElem?_getD, List.getElem?_set_ne (by omega), ← List.getD_eq_getElem?_getD]
  exact h.tail j (by omega)
 ·
  rw [take_set_succ L (by omega)]
  refine List.pairwise_append.2 ⟨h.sorted, List.pairwise_singleton _ _, fun a ha b hb => ?_⟩
  rw [List.mem_singleton.1 hb]
  rcases hlt with rfl | hlt
  ·
   rw [List.take_zero] at ha; cases ha
  ·
   rcases Nat.eq_zero_or_pos n with rfl | hn
   ·
    rw [List.take_zero] at ha; cases ha
   have e : L.take n = L.take (n - 1) ++ [L.getD (n - 1) []] := by
    have := take_succ' L (i := n - 1) (by omega)
    rwa [show n - 1 + 1 = n by omega] at this
   have hs := h.sorted
   rw [e] at ha hs
   rcases List.mem_append.1 ha with ha | ha
   ·
    have h1 := (List.pairwise_append.1 hs).2.2 a ha _ (List.mem_singleton.2 rfl)
    exact cmpL_trans _ _ _ h1 hlt
   ·
    rw [List.mem_singleton.1 ha]; exact hlt
 ·
  rw [take_set_succ L (by omega), take_succ' S hi, List.mem_append, List.mem_append, h.mem y, List.mem_singleton, List.mem_singleton, h.tail i (Nat.le_refl _)]
theorem Comp.skip {S L : List (List UInt8)} {i n : Nat} (h : Comp S L i n) (hW : Weak S) (hi : i < S.length) (hn : 0 < n) (hlt : ¬ cmpL (L.getD (n - 1) []) (L.getD i []) < 0) : Comp S L (i + 1) n := by
 have hle := h.le
 have hlen := h.len
 refine ⟨h.len, by omega, fun j hj => h.tail j (by omega), h.sorted, fun y => ?_⟩
 have hin : L.getD (n - 1) [] ∈ L.take n := by
  have := take_succ' L (i := n - 1) (by omega)
  rw [show n - 1 + 1 = n by omega] at this
  rw [this]
  exact List.mem_append.2 (.inr (List.mem_singleton.2 rfl))
 have hin2 := (h.mem _).1 hin
 obtain ⟨k, hk, he⟩ := List.getElem_of_mem hin2
 rw [List.length_take] at hk
 rw [List.getElem_take] at he
 have hki : k < i := by omega
 have hw := hW k i hki hi
 rw [show S.getD k [] = L.getD (n - 1) [] by rw [← he, List.getD_eq_getElem?_getD, List.getElem?_eq_getElem (by omega)]; rfl] at hw
 rw [h.tail i (Nat.le_refl _)] at hlt
 have heq : S.getD i [] = L.getD (n - 1) [] := by
  have h1 := cmpL_neg (L.getD (n - 1) []) (S.getD i [])
  exact (cmpL_zero _ _ (by omega)).symm
 rw [take_succ' S hi, List.mem_append, h.mem y, List.mem_singleton]
 constructor
 ·
  exact .inl
 ·
  rintro (h1 | h1)
  ·
   exact h1
  ·
   rw [h1, heq]; exact hin2
theorem Comp.done {S L : List (List UInt8)} {n : Nat} (h : Comp S L S.length n) : L.take n = setL S := by
 refine sorted_ext _ _ h.sorted (setL_sorted S) fun y => ?_
 rw [h.mem y, List.take_length, mem_setL]
/-- a beginning of a list of the call's own -/
theorem OwnI.cut {w : World} {F : Nat → Prop} {g n cap : Nat} {L : List (List UInt8)} (h : OwnI w F (.slice (some ⟨g, 0, none⟩) n cap) L) {k : Nat} (hk : k ≤ L.length) : OwnI w F (.slice (some ⟨g, 0, none⟩) k cap) (L.take k) := by
 rcases h.2.1.2 with ⟨e, _⟩ | ⟨g', cap', cur, e, hb, hh, hle, hcm, hcs, htk⟩
 ·
  cases e
 ·
  cases e
  have hl : (L.take k).length = k := by rw [List.length_take]; omega
  refine ⟨h.1.take k, ⟨by rw [fl_len (h.1.take k)], .inr ⟨g, cap, cur, by rw [hl], hb, hh, by omega, hcm, hcs, ?_⟩⟩, fun j hj => h.2.2 j hj⟩
  rw [hl, ← fl_take k h.1, ← htk, List.take_take, Nat.min_eq_left (by omega)]

set_option maxHeartbeats 2000000 in
set_option maxRecDepth 100000 in
theorem set_any (L : List (List UInt8)) (v : Value) (w : World) (hR : RdV w v L) (hm : L.length ≤ 100000) : Calls Tryz.prog 39 #[v] w fun e w' => ∃ v', e = .returned v' ∧ OwnI w' (w.heap.size ≤ ·) v' (setL L) ∧ Below w.heap.size w w' := by
 have HC := Lib.hid (iclone_any hR (by omega))
 have en := srt.enters_less
 clear hR
 go_enter Tryz.func39, Tryz.ntmps39
 go_wp2_with (first
  | (go_at_call 71; (with_reducible refine HS.out.mono ?_); rintro e w2 ⟨rfl, S, hP, hW, hO, hT⟩)
  | (go_at_call 69; (with_reducible refine HC.out.mono ?_); rintro e w1 ⟨v1, rfl, hO1, hB1⟩; obtain ⟨ad1, cap1, rfl, -, -⟩ := hO1.form; have HO1 := Lib.hid hO1; have HB1 := Lib.hid hB1; have HS := Lib.hid (sort_own hO1 (by omega)); clear hO1 hB1 HC))
 have HP := Lib.hid hP
 have HW := Lib.hid hW
 have HO := Lib.hid hO
 have hlen : S.length = L.length := hP.length_eq
 have HB := Lib.hid (HB1.out.trans (hT.below fun k hk => hk.elim (fun h => HO1.out.2.2 k h) (fun h => Nat.le_trans HB1.out.size h)))
 clear hP hW hO hT HO1 HB1 HS
 go_loopg [5, 6, 17] L.length (fun gk s5 s6 s17 wr => ∃ (i n : Nat) (L' : List (List UInt8)), s5 = .int .i64 n ∧ s17 = .int .i64 i ∧ n ≤ i ∧ i ≤ L.length ∧ L.length - i ≤ gk ∧ L'.length = L.length ∧ Hid (OwnI wr (w.heap.size ≤ ·) (.slice ad1 L.length cap1) L') ∧ Hid (Comp S L' i n) ∧ Hid (Below w.heap.size w wr))
 case atStart => exact ⟨0, 0, S, rfl, rfl, Nat.le_refl _, Nat.zero_le _, by omega, hlen, HO, Lib.hid (Comp.start S), HB⟩
 case round =>
  obtain ⟨i, n, L', rfl, rfl, hni, hiL, hgk, hL', HO2, HC2, HB2⟩ := hrel
  clear HO HB
  by_cases hlt : i < L.length
  ·
   have hltz : (i : Int) < (L.length : Int) := by omega
   obtain ⟨b, c, w0, hv, _, _, _, _⟩ := HO2.out.store (i := i) (by omega) (y := List.replicate 32 0) rfl
   obtain ⟨rfl, rfl⟩ : ad1 = some ⟨b, 0, none⟩ ∧ cap1 = c := by injection hv with e1 e2 e3; exact ⟨e1, e3⟩
   clear hv
   obtain ⟨y, hy⟩ : ∃ y, y = L'.getD i [] := ⟨_, rfl⟩
   have hy32 : y.length = 32 := by rw [hy]; exact HO2.out.1.get (by omega)
   have HY := Lib.hid hy
   clear hy
   have i0 : (0 : Int) ≤ (i : Int) := Int.natCast_nonneg _
   have n0 : (0 : Int) ≤ (n : Int) := Int.natCast_nonneg _
   have nI : (n : Int) < (L.length : Int) := by omega
   by_cases hn : n = 0
   ·
    subst hn
    have hld : (Instr.loadAt 24 (.pointer (some ⟨b, i * 32, none⟩))).run Tryz.prog wr = .ok (.agg (bv y).toArray) wr := by
     have := (HO2.out.rdv (by omega)).1
     rw [← hL'] at this
     have := this.load_y (i := i) (y := y) (by omega) HY.out.symm
     rwa [Nat.zero_add] at this
    obtain ⟨b', c', w4, hv, _, hst, hO4, hT4⟩ := HO2.out.store (i := 0) (by omega) (y := y) hy32
    obtain ⟨rfl, rfl⟩ : b = b' ∧ cap1 = c' := by injection hv with e1 e2 e3; injection e1 with e1; injection e1 with e1; exact ⟨e1, e3⟩
    clear hv
    rw [Nat.zero_mul] at hst
    have HO4 := Lib.hid hO4
    have HT4 := Lib.hid hT4
    clear hO4 hT4
    go_wp2_with (first
     | ((with_reducible refine step_load (t := 24) (x := .tmp 33) (p := ?lpld1) (v := ?lvld1) ?lgld1 ?lold1 ?lxld1 ?lrld1 ?lhld1); (case lgld1 => rfl); (case lold1 => rfl); (case lxld1 => rfl); (case lrld1 => exact hld))
     | ((with_reducible refine step_store_at (x := .tmp 35) (y := .tmp 34) (p := ?wpst1) (v := ?wvst1) (w' := ?wwst1) ?wgst1 ?wost1 ?wxst1 ?wyst1 ?wrst1 ?whst1); (case wgst1 => rfl); (case wost1 => rfl); (case wxst1 => rfl); (case wyst1 => rfl); (case wrst1 => exact hst)))
    go_roundg (L.length - (i + 1))
    case measure => omega
    case rel => exact ⟨i + 1, 1, _, by go_num, by go_num, by omega, by omega, by omega, by rw [List.length_set]; exact hL', HO4, Lib.hid (by rw [HY.out]; exact HC2.out.keep (by omega) (.inl rfl)), Lib.hid (HB2.out.trans (HT4.out.below fun k hk => by rw [hk]; exact HO2.out.2.2 b rfl))⟩
   ·
    have hnb : ((n : Int) == 0) = false := beq_eq_false_iff_ne.2 (by omega)
    have hA := ahead_own HO2.out (i := n - 1) (j := i) (by omega) (by omega)
    rw [show ((n - 1 : Nat) : Int) = (n : Int) - 1 by omega] at hA
    by_cases hc : cmpL (L'.getD (n - 1) []) (L'.getD i []) < 0
    ·
     rw [decide_eq_true hc] at hA
     have HA := Lib.hid hA
     have HK := Lib.hid (HC2.out.keep (by omega) (.inr hc))
     clear hA hc
     go_wp2_with (first
      | (go_at_fn 70; (with_reducible refine HA.out.mono ?_); rintro e w3 ⟨rfl, hB3⟩; have HO3 := Lib.hid (HO2.out.below hB3); have HB3 := Lib.hid (HB2.out.trans (hB3.mono HB2.out.size)); have hld : (Instr.loadAt 24 (.pointer (some ⟨b, i * 32, none⟩))).run Tryz.prog w3 = .ok (.agg (bv y).toArray) w3 := (by (have := (HO3.out.rdv (by omega)).1); rw [← hL'] at this; (have := this.load_y (i := i) (y := y) (by omega) HY.out.symm); rwa [Nat.zero_add] at this); obtain ⟨b', c', w4, hv, _, hst, hO4, hT4⟩ := HO3.out.store (i := n) (by omega) (y := y) hy32; obtain ⟨rfl, rfl⟩ : b = b' ∧ cap1 = c' := (by injection hv with e1 e2 e3; injection e1 with e1; injection e1 with e1; exact ⟨e1, e3⟩); have HO4 := Lib.hid hO4; have HT4 := Lib.hid hT4; clear hO4 hT4 hv hB3 HA)
      | ((with_reducible refine step_load (t := 24) (x := .tmp 33) (p := ?lpld2) (v := ?lvld2) ?lgld2 ?lold2 ?lxld2 ?lrld2 ?lhld2); (case lgld2 => rfl); (case lold2 => rfl); (case lxld2 => rfl); (case lrld2 => exact hld))
      | ((with_reducible refine step_store_at (x := .tmp 35) (y := .tmp 34) (p := ?wpst2) (v := ?wvst2) (w' := ?wwst2) ?wgst2 ?wost2 ?wxst2 ?wyst2 ?wrst2 ?whst2); (case wgst2 => rfl); (case wost2 => rfl); (case wxst2 => rfl); (case wyst2 => rfl); (case wrst2 => exact hst)))
     go_roundg (L.length - (i + 1))
     case measure => omega
     case rel => exact ⟨i + 1, n + 1, _, by go_num, by go_num, by omega, by omega, by omega, by rw [List.length_set]; exact hL', HO4, Lib.hid (by rw [HY.out]; exact HK.out), Lib.hid (HB3.out.trans (HT4.out.below fun k hk => by rw [hk]; exact HO2.out.2.2 b rfl))⟩
    ·
     rw [decide_eq_false hc] at hA
     have HA := Lib.hid hA
     have HK := Lib.hid (HC2.out.skip HW.out (by omega) (by omega) hc)
     clear hA hc
     go_wp2_with (go_at_fn 70; (with_reducible refine HA.out.mono ?_); rintro e w3 ⟨rfl, hB3⟩; have HO3 := Lib.hid (HO2.out.below hB3); have HB3 := Lib.hid (HB2.out.trans (hB3.mono HB2.out.size)); clear hB3 HA)
     go_roundg (L.length - (i + 1))
     case measure => omega
     case rel => exact ⟨i + 1, n, _, rfl, by go_num, by omega, by omega, by omega, hL', HO3, HK, HB3⟩
  ·
   obtain rfl : i = L.length := by omega
   have hltz : ¬ (L.length : Int) < (L.length : Int) := by omega
   have HD := Lib.hid (show L'.take n = setL L by
    have h1 := HC2.out
    rw [← hlen] at h1
    rw [h1.done]
    exact setL_same _ _ fun y => HP.out.mem_iff)
   have n0 : (0 : Int) ≤ (n : Int) := Int.natCast_nonneg _
   have nI : (n : Int) ≤ (L.length : Int) := by omega
   have hcap : L.length ≤ cap1 := by
    rcases HO2.out.2.1.2 with ⟨e, hn⟩ | ⟨g, cap, cur, e, _, _, hle, _⟩
    ·
     rw [hL'] at hn; omega
    ·
     injection e with e1 e2 e3; omega
   cases ad1 with
   | none =>
    have hz : n = 0 ∧ L.length = 0 ∧ cap1 = 0 := by
     rcases HO2.out.2.1.2 with ⟨e, hn⟩ | ⟨g, cap, cur, e, _, _, hle, _⟩
     ·
      injection e with e1 e2 e3; omega
     ·
      injection e with e1 e2 e3; cases e1
    obtain ⟨rfl, hz2, rfl⟩ := hz
    clear nI hltz
    rw [hz2]
    go_wp2_with fail
    go_ret
    have hnil : setL L = [] := by rw [← HD.out, List.take_zero]
    rw [hnil]
    exact ⟨_, rfl, OwnI.nil _ _, HB2.out⟩
   | some a =>
    obtain ⟨b, rfl⟩ : ∃ b, a = ⟨b, 0, none⟩ := by
     rcases HO2.out.2.1.2 with ⟨e, hn⟩ | ⟨g, cap, cur, e, _, _, hle, _⟩
     ·
      injection e with e1 e2 e3; cases e1
     ·
      injection e with e1 e2 e3; injection e1 with e1; exact ⟨g, e1⟩
    have hcapz : (n : Int) ≤ (cap1 : Int) := by omega
    go_wp2_with fail
    go_ret
    have h1 := HO2.out.cut (k := n) (by omega)
    rw [HD.out] at h1
    exact ⟨_, rfl, h1, HB2.out⟩
end Go.Proofs.YtpeneeddfgmjpaaGreatDoor.ids
