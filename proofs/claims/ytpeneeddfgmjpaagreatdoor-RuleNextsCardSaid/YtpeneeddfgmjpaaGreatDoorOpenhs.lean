/-
  A header that came in.
  A slice of structs whose fields have one cell each, opened to its cells.
  A list of headers that came in: how it lies in memory.
-/
import Derived.Test.YtpeneeddfgmjpaaGreatDoorOpenid
import Derived.Test.YtpeneeddfgmjpaaGreatDoorHdm
import Derived.Test.YtpeneeddfgmjpaaGreatDoorKit
import Derived.Deep.Slices
import Derived.Deep.Fields
import Derived.ChangeSame
import Derived.Test.YtpeneeddfgmjpaaGreatDoorHds
namespace Go.Proofs.YtpeneeddfgmjpaaGreatDoor.kit
open Go.ChangeShapes Go.WideShapes Go.ChangeAt Go.RowKit Go.Proofs.YtpeneeddfgmjpaaGreatDoor.sha Go.Proofs.YtpeneeddfgmjpaaGreatDoor.ids Go.Proofs.YtpeneeddfgmjpaaGreatDoor.hdr

theorem cells_hd : Tryz.prog.cellsOf 26 = 38 := by kernel_rfl
theorem one_int_h : Tryz.prog.cellsOf 3 = 1 := by kernel_rfl
theorem one_str_h : Tryz.prog.cellsOf 9 = 1 := by kernel_rfl
theorem one_ids_h : Tryz.prog.cellsOf 22 = 1 := by kernel_rfl
theorem cut_at_h (l : List Value) (n m : Nat) : l.drop n = (l.drop n).take m ++ l.drop (n + m) := by
 rw [← List.drop_drop, List.take_append_drop]
set_option maxRecDepth 100000 in
theorem hd_of_trod {H : Type} {enc : TypeId × Value → H} {W : World} {fuel : Nat} {cs0 : List Value} {x : DataW H × List MemPlace}
  (hf : DataW.trod enc Tryz.prog W 0 (fun _ => true) true fuel 26 cs0 = some x) (hsz : ∀ n ∈ DataW.weights Tryz.prog 26 x.1, n ≤ reachBytes) :
  ∃ (o : Hd) (v : Value), cs0 = hdc o v ∧ o.commit.length = 32 ∧ RdV W v o.parents ∧ o.topic.length ≤ 140737488351232 := by
 obtain ⟨xs, n, _, hx, hlen, hn, hff⟩ := DataW.trod_struct Tryz.underlying26 hf
 rw [cells_hd] at hlen
 have h0 := hff 0 _ rfl
 have h1 := hff 1 _ rfl
 have h2 := hff 2 _ rfl
 have h3 := hff 3 _ rfl
 have h4 := hff 4 _ rfl
 have h5 := hff 5 _ rfl
 have h6 := hff 6 _ rfl
 have hxs : xs.length = 7 := hn
 have e : ∀ i, i < 7 → ∃ y, xs[i]? = some y := fun i hi => ⟨_, List.getElem?_eq_getElem (by omega)⟩
 obtain ⟨y0, k0⟩ := e 0 (by decide)
 obtain ⟨y1, k1⟩ := e 1 (by decide)
 obtain ⟨y2, k2⟩ := e 2 (by decide)
 obtain ⟨y3, k3⟩ := e 3 (by decide)
 obtain ⟨y4, k4⟩ := e 4 (by decide)
 obtain ⟨y5, k5⟩ := e 5 (by decide)
 obtain ⟨y6, k6⟩ := e 6 (by decide)
 rw [k0] at h0
 rw [k1] at h1
 rw [k2] at h2
 rw [k3] at h3
 rw [k4] at h4
 rw [k5] at h5
 rw [k6] at h6
 replace h0 : DataW.trod enc Tryz.prog W 0 (fun _ => true) true n 22 ((cs0.drop 0).take 1) = some y0 := one_ids_h ▸ h0
 replace h1 : DataW.trod enc Tryz.prog W 0 (fun _ => true) true n 3 ((cs0.drop 1).take 1) = some y1 := one_int_h ▸ h1
 replace h2 : DataW.trod enc Tryz.prog W 0 (fun _ => true) true n 9 ((cs0.drop 2).take 1) = some y2 := one_str_h ▸ h2
 replace h3 : DataW.trod enc Tryz.prog W 0 (fun _ => true) true n 3 ((cs0.drop 3).take 1) = some y3 := one_int_h ▸ h3
 replace h4 : DataW.trod enc Tryz.prog W 0 (fun _ => true) true n 3 ((cs0.drop 4).take 1) = some y4 := one_int_h ▸ h4
 replace h5 : DataW.trod enc Tryz.prog W 0 (fun _ => true) true n 3 ((cs0.drop 5).take 1) = some y5 := one_int_h ▸ h5
 replace h6 : DataW.trod enc Tryz.prog W 0 (fun _ => true) true n 24 ((cs0.drop 6).take 32) = some y6 := cells_id ▸ h6
 have hw : ∀ j t d, (Tryz.prog.types.size = Tryz.prog.types.size) → ([22, 3, 9, 3, 3, 3, 24] : List TypeId)[j]? = some t → (xs.map (·.1))[j]? = some d → ∀ n ∈ DataW.weights Tryz.prog t d, n ≤ reachBytes := fun j t d _ ht hd n hn => hsz n (by
  rw [hx]
  simp only [DataW.weights, Tryz.underlying26]
  exact DataW.weights_mem_each (j := j) (t := t) (d := d) ht hd _ hn)
 obtain ⟨v, L, e0, hR⟩ := ids_of_trod h0 (hw 0 _ _ rfl rfl (by rw [List.getElem?_map, k0]; rfl))
 obtain ⟨n1, e1, _, _⟩ := DataW.trod_int Tryz.underlying3 h1
 obtain ⟨ts, e2, e2', _⟩ := DataW.trod_string Tryz.underlying9 h2
 obtain ⟨n3, e3, _, _⟩ := DataW.trod_int Tryz.underlying3 h3
 obtain ⟨n4, e4, _, _⟩ := DataW.trod_int Tryz.underlying3 h4
 obtain ⟨n5, e5, _, _⟩ := DataW.trod_int Tryz.underlying3 h5
 obtain ⟨y, hy, e6⟩ := id_of_trod h6
 refine ⟨⟨L, n1, ts.data.toList, n3, n4, n5, y⟩, v, ?_, hy, hR, ?_⟩
 ·
  have c : cs0 = cs0.drop 0 := rfl
  rw [c, cut_at_h cs0 0 1, cut_at_h cs0 (0 + 1) 1, cut_at_h cs0 (0 + 1 + 1) 1, cut_at_h cs0 (0 + 1 + 1 + 1) 1, cut_at_h cs0 (0 + 1 + 1 + 1 + 1) 1, cut_at_h cs0 (0 + 1 + 1 + 1 + 1 + 1) 1, cut_at_h cs0 (0 + 1 + 1 + 1 + 1 + 1 + 1) 32, List.drop_of_length_le (i := 0 + 1 + 1 + 1 + 1 + 1 + 1 + 32) (by omega)]
  unfold hdc
  rw [oct.tx_eta]
  show List.take 1 (List.drop 0 cs0) ++ (List.take 1 (List.drop 1 cs0) ++ (List.take 1 (List.drop 2 cs0) ++ (List.take 1 (List.drop 3 cs0) ++ (List.take 1 (List.drop 4 cs0) ++ (List.take 1 (List.drop 5 cs0) ++ (List.take 32 (List.drop 6 cs0) ++ [])))))) = _
  rw [e0, e1, e2, e3, e4, e5, e6, List.append_nil]
  rfl
 ·
  have := hw 2 _ _ rfl rfl (by rw [List.getElem?_map, k2]; rfl) ts.data.toList.length (by rw [e2']; simp [DataW.weights])
  exact this
set_option maxRecDepth 100000 in
theorem open_hd {H : Type} {enc : TypeId × Value → H} {W : World} {base : Nat} {ts : List TypeId} {ds : List (DataW H)} {j : Nat} {v : Value} {d : DataW H} {p : List MemPlace}
  (hv : Value.okWide Tryz.prog W .any base 26 v) (h : DataW.Trod enc Tryz.prog W 0 (fun _ => true) true 26 v d p)
  (hsz : (DataW.weightsEach Tryz.prog ts ds).all (· ≤ reachBytes) = true) (htj : ts[j]? = some 26) (hdj : ds[j]? = some d) :
  ∃ (o : Hd) (u : Value), v = hdv o u ∧ o.commit.length = 32 ∧ RdV W u o.parents ∧ o.topic.length ≤ 140737488351232 := by
 obtain ⟨cs, rfl, _⟩ := okWide_struct Tryz.underlying26 hv
 obtain ⟨fuel, hf⟩ := h
 obtain ⟨o, u, hc, h1, h2, h3⟩ := hd_of_trod hf fun n hn => by
  have h1 := List.all_eq_true.1 hsz _ (DataW.weights_mem_each htj hdj _ hn)
  simpa using h1
 refine ⟨o, u, ?_, h1, h2, h3⟩
 simp only [Value.cells] at hc
 unfold hdv
 rw [← hc]
end Go.Proofs.YtpeneeddfgmjpaaGreatDoor.kit

namespace Go.Proofs.YtpeneeddfgmjpaaGreatDoor.kit
open Go.ChangeShapes Go.WideShapes Go.ChangeAt Go.RowKit Go.Deep

/- a slice of structs of one-cell fields, opened to its cells (after the guide's page on structs) -/
section
variable {H : Type} {enc : TypeId × Value → H} {P : Program} {w : World} {base : Nat} {spare : Nat → Bool} {held : Bool}
theorem open_slice_fields {t e : TypeId} {fs : Array Field} {fuel : Nat} {cs : List Value} {x : DataW H × List MemPlace} (ht : P.underlying t = some (.slice e)) (he : P.underlying e = some (.struct fs))
  (hone : oneCellFields P fs = true) (hC : P.cellsOf e = fs.size) (h : DataW.trod enc P w base spare held fuel t cs = some x) :
  (cs = [.slice none 0 0] ∧ x = (.nil, [])) ∨
  ∃ (a : Addr) (len cap m : Nat) (D : Nat → DataW H) (Pl : Nat → List MemPlace), cs = [.slice (some a) len cap] ∧ base ≤ a.block ∧ len ≤ cap ∧ cap ≤ maxLen ∧ m = (if spare a.block then cap else len) ∧
   x = (.slice ((List.range len).map D) ((List.range (m - len)).map fun j => D (len + j)), MemPlace.row a (m * fs.size) ++ (List.range m).flatMap Pl) ∧
   ∀ i, i < m → ∃ (ys : List (DataW H × List MemPlace)) (n : Nat), D i = .agg (ys.map (·.1)) ∧ Pl i = ys.flatMap (·.2) ∧ ys.length = fs.size ∧
    ∀ (j : Nat) (f : Field), fs[j]? = some f → ∃ (v : Value) (y : DataW H × List MemPlace), w.cell? (a.add (i * fs.size + j)) = some v ∧ ys[j]? = some y ∧ DataW.trod enc P w base spare held n f.type [v] = some y := by
 rcases open_slice ht h with h0 | ⟨a, len, cap, m, n, D, Pl, hcs, hb, hl, hm, hmm, hx, hi⟩
 ·
  exact .inl h0
 ·
  refine .inr ⟨a, len, cap, m, D, Pl, hcs, hb, hl, hm, hmm, by rw [hC] at hx; exact hx, fun i him => ?_⟩
  obtain ⟨cs', hc, ht'⟩ := hi i him
  rw [hC] at hc
  obtain ⟨ys, n', hn', hy, hlen, hyl, hf⟩ := DataW.trod_struct he ht'
  obtain ⟨_, hcl, hat⟩ := World.cells?_some hc
  simp only [Prod.mk.injEq] at hy
  refine ⟨ys, n', hy.1, hy.2, hyl, fun j f hj => ?_⟩
  obtain ⟨ho, hk⟩ := hone_of hone j f hj
  have hjl : j < fs.size := (Array.getElem?_eq_some_iff.1 hj).1
  have hcell := hat j hjl
  have hv : cs'[j]? = some (cs'[j]'(by omega)) := List.getElem?_eq_getElem (by omega)
  have h1 := hf j f hj
  rw [ho, hk] at h1
  have hone' : (cs'.drop j).take 1 = [cs'[j]'(by omega)] := by
   rw [List.drop_eq_getElem_cons (by omega)]
   rfl
  rw [hone'] at h1
  have hys : ys[j]? = some (ys[j]'(by omega)) := List.getElem?_eq_getElem (by omega)
  refine ⟨_, _, ?_, hys, h1.trans hys⟩
  rw [← Go.Deep.add_add, hcell, hv]
end

section
variable {H : Type} {enc : TypeId × Value → H} {P : Program}

theorem weights_all {e : TypeId} : ∀ {l : List (DataW H)} {d : DataW H}, d ∈ l → ∀ n ∈ d.weights P e, n ∈ DataW.weightsAll P e l
 | x :: l, d, hd, n, hn => by
  simp only [DataW.weightsAll, List.mem_append]
  rcases List.mem_cons.1 hd with rfl | hd
  ·
   exact .inl hn
  ·
   exact .inr (weights_all hd n hn)
end

end Go.Proofs.YtpeneeddfgmjpaaGreatDoor.kit

namespace Go.Proofs.YtpeneeddfgmjpaaGreatDoor.kit
open Go.ChangeShapes Go.WideShapes Go.ChangeAt Go.RowKit Go.Proofs.YtpeneeddfgmjpaaGreatDoor.sha Go.Proofs.YtpeneeddfgmjpaaGreatDoor.ids Go.Proofs.YtpeneeddfgmjpaaGreatDoor.hdr Go.Proofs.YtpeneeddfgmjpaaGreatDoor.hds Go.Proofs.YtpeneeddfgmjpaaGreatDoor.rows

theorem bytes_hd : Tryz.prog.bytesOf 26 = 104 := by kernel_rfl
set_option maxRecDepth 100000 in
theorem hs_of_trod {H : Type} {enc : TypeId × Value → H} {W : World} {fuel : Nat} {cs0 : List Value} {x : DataW H × List MemPlace}
  (hf : DataW.trod enc Tryz.prog W 0 (fun _ => true) true fuel 27 cs0 = some x) (hsz : ∀ n ∈ DataW.weights Tryz.prog 27 x.1, n ≤ reachBytes) :
  ∃ v P, cs0 = [v] ∧ HsV W v P ∧ ∀ p ∈ P, p.1.topic.length ≤ 140737488351232 := by
 rcases DataW.trod_slice Tryz.underlying27 hf with ⟨hce, _⟩ | ⟨a, len0, cap0, elems, rest, n, _, hce, hx, _, hl, hm, hlen, hel, hsp, _⟩
 ·
  exact ⟨_, [], hce, HsV.nil W, fun p hp => (by cases hp)⟩
 ·
  subst hx
  obtain ⟨hrl, hr⟩ := hsp rfl
  rw [cells_hd] at hel hr
  have hmax : (elems.length + rest.length) * 104 ≤ 140737488351232 := by
   exact hsz _ (by simp only [DataW.weights, Tryz.underlying27, List.length_map, bytes_hd, List.mem_cons, true_or])
  have cell : ∀ i, i < len0 → ∃ q : Hd × Value, W.cells? 0 (a.add (i * 38)) 38 = some (hdc q.1 q.2) ∧ q.1.commit.length = 32 ∧ RdV W q.2 q.1.parents ∧ q.1.topic.length ≤ 140737488351232 := fun i hi => by
   have hi2 : i < elems.length := by omega
   have := hel i hi
   rw [List.getElem?_eq_getElem hi2, Option.bind_eq_some_iff] at this
   obtain ⟨cs, hcs, ht⟩ := this
   obtain ⟨o, u, rfl, h1, h2, h3⟩ := hd_of_trod ht fun m hm => hsz m (by
    simp only [DataW.weights, Tryz.underlying27, List.mem_cons, List.mem_append]
    exact .inr (.inl (weights_all (List.mem_map_of_mem (List.getElem_mem hi2)) _ hm)))
   exact ⟨(o, u), hcs, h1, h2, h3⟩
  have hspot : 0 < cap0 → ∃ b off, a = ⟨b, off, none⟩ := fun hpos => by
   have hany : ∃ cs, W.cells? 0 (a.add (0 * 38)) 38 = some cs := by
    by_cases h0 : 0 < len0
    ·
     obtain ⟨q, hc, _⟩ := cell 0 h0
     exact ⟨_, hc⟩
    ·
     have := hr 0 (by omega)
     obtain rfl : len0 = 0 := by omega
     have h0r : 0 < rest.length := by omega
     rw [List.getElem?_eq_getElem h0r, Option.bind_eq_some_iff] at this
     obtain ⟨cs, hcs, _⟩ := this
     exact ⟨cs, hcs⟩
   obtain ⟨cs, hcs⟩ := hany
   obtain ⟨_, hcl, hk⟩ := World.cells?_some hcs
   have z0 := hk 0 (by decide)
   obtain ⟨b, off, spot⟩ := a
   have e0 : cs[0]? = some (cs[0]'(by omega)) := List.getElem?_eq_getElem (by omega)
   rw [e0] at z0
   have hspot : spot = none := by simpa [Addr.add] using World.cell?_spot z0
   subst hspot
   exact ⟨b, off, rfl⟩
  have hch : ∃ f : Nat → Hd × Value, ∀ i, i < len0 → W.cells? 0 (a.add (i * 38)) 38 = some (hdc (f i).1 (f i).2) ∧ (f i).1.commit.length = 32 ∧ RdV W (f i).2 (f i).1.parents ∧ (f i).1.topic.length ≤ 140737488351232 := by
   refine ⟨fun i => if hi : i < len0 then Classical.choose (cell i hi) else zhp, fun i hi => ?_⟩
   simp only [hi, dif_pos]
   exact Classical.choose_spec (cell i hi)
  obtain ⟨f, hf2⟩ := hch
  obtain ⟨P, hP⟩ : ∃ P, P = (List.range len0).map f := ⟨_, rfl⟩
  have hL : P.length = len0 := by rw [hP]; simp
  have hget : ∀ i, i < len0 → P.getD i zhp = f i := fun i hi => by
   rw [hP, List.getD_eq_getElem?_getD, List.getElem?_map, List.getElem?_range hi]; rfl
  have hmem : ∀ p ∈ P, ∃ i, i < len0 ∧ p = f i := fun p hp => by
   rw [hP] at hp
   obtain ⟨i, hi, rfl⟩ := List.mem_map.1 hp
   exact ⟨i, List.mem_range.1 hi, rfl⟩
  have hin : Ins W P := fun p hp => by
   obtain ⟨i, hi, rfl⟩ := hmem p hp
   exact ⟨(hf2 i hi).2.2.1, (hf2 i hi).2.1⟩
  have huni : Uni 38 (hcs P) := fun y hy => by
   unfold hds.hcs at hy
   obtain ⟨p, hp, rfl⟩ := List.mem_map.1 hy
   exact hdc_uni (hin p hp).2 (rdv_one (hin p hp).1)
  have hhl : (hcs P).length = len0 := by rw [hcs_len, hL]
  refine ⟨_, P, hce, ⟨⟨huni, by rw [hhl]; omega, some a, cap0, by rw [hhl], by rw [hhl]; exact hl, hm, (fun h => by cases h), (fun a' ha' hp => ?_), ?_⟩, hin⟩, fun p hp => ?_⟩
  ·
   cases ha'; exact hspot hp
  ·
   by_cases h0 : len0 = 0
   ·
    left
    have : P = [] := List.eq_nil_of_length_eq_zero (by omega)
    rw [this]; rfl
   ·
    obtain ⟨b, off, rfl⟩ := hspot (by omega)
    have hbl : b < W.heap.size := by
     obtain ⟨_, hcl, hk⟩ := World.cells?_some (hf2 0 (by omega)).1
     have z0 := hk 0 (by decide)
     have e0 : (hdc (f 0).1 (f 0).2)[0]? = some ((hdc (f 0).1 (f 0).2)[0]'(by omega)) := List.getElem?_eq_getElem (by omega)
     rw [e0] at z0
     exact World.block_lt_of_cell? W _ z0
    refine .inr ⟨b, off, rfl, hbl, fun k u hu => ?_⟩
    have hk : k < len0 * 38 := by
     have := (List.getElem?_eq_some_iff.1 hu).1
     rw [huni.len, hhl] at this
     exact this
    have hi : k / 38 < len0 := by omega
    have hkk : k = k / 38 * 38 + k % 38 := by omega
    rw [hkk, huni.get (by rw [hhl]; exact hi) (Nat.mod_lt _ (by decide)), hcs_get (by rw [hL]; exact hi), hget _ hi] at hu
    obtain ⟨_, _, hc⟩ := World.cells?_some (hf2 (k / 38) hi).1
    have := hc (k % 38) (Nat.mod_lt _ (by decide))
    rw [Addr.add_lit, Addr.add_lit, hu] at this
    rw [show off + k = off + k / 38 * 38 + k % 38 by omega]
    exact this
  ·
   obtain ⟨i, hi, rfl⟩ := hmem p hp
   exact (hf2 i hi).2.2.2
set_option maxRecDepth 100000 in
theorem open_hs {H : Type} {enc : TypeId × Value → H} {W : World} {base : Nat} {ts : List TypeId} {ds : List (DataW H)} {j : Nat} {v : Value} {d : DataW H} {p : List MemPlace}
  (hv : Value.okWide Tryz.prog W .any base 27 v) (h : DataW.Trod enc Tryz.prog W 0 (fun _ => true) true 27 v d p)
  (hsz : (DataW.weightsEach Tryz.prog ts ds).all (· ≤ reachBytes) = true) (htj : ts[j]? = some 27) (hdj : ds[j]? = some d) : ∃ P : HP, HsV W v P ∧ ∀ p ∈ P, p.1.topic.length ≤ 140737488351232 := by
 obtain ⟨a0, len0, cap0, rfl⟩ := okWide_slice Tryz.underlying27 hv
 obtain ⟨fuel, hf⟩ := h
 obtain ⟨v, P, hcs, hR⟩ := hs_of_trod hf fun n hn => by
  have h1 := List.all_eq_true.1 hsz _ (DataW.weights_mem_each htj hdj _ hn)
  simpa using h1
 simp only [Value.cells] at hcs
 injection hcs with h1 _
 exact ⟨P, h1 ▸ hR⟩
end Go.Proofs.YtpeneeddfgmjpaaGreatDoor.kit
