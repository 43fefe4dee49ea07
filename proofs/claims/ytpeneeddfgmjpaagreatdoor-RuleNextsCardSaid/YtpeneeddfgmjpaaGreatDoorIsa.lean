/-
  Comparing of ids, beside the sort.
  The library's sort.Slice at a slice type that has a name: its entries' laws; its own body.
  A row of ids that is being sorted, and lists of ids; list.ahead over it; sort.Slice sorts.
  slices.Clone of ids; a list of the call's own sorted; ident.Set.
-/
import Derived.Test.YtpeneeddfgmjpaaGreatDoorIsb
import Derived.Test.YtpeneeddfgmjpaaGreatDoorSrt
import Derived.Test.YtpeneeddfgmjpaaGreatDoorSrtg
import Derived.Shelf.GgSortFunc.Slice
import Derived.Shelf.GgSortFunc.Tiny
import Derived.Shelf.GgSortFunc.RowK
import Derived.Deep.RegionHeld3
import Derived.Test.YtpeneeddfgmjpaaGreatDoorRufa
import Derived.Test.YtpeneeddfgmjpaaGreatDoorHdm


namespace Go.Proofs.YtpeneeddfgmjpaaGreatDoor.srt
open Go.Extern Go.Extern.Rtype Go.Lib Go.Proofs Go.Shelf
section
variable {P : Program}
theorem nm_under (t u e : TypeId) (nm : String) (i iu : TypeInfo) (hi : P.info? t = some i) (hd : i.desc = .named nm u) (hu : P.info? u = some iu) (_hdu : iu.desc = .slice e) (w : World) : (under t).run P w = .ok (u, iu) w := by
  simp [under, rl_info t i hi, hd, rl_info u iu hu, Result.andThen]
theorem nm_kind (t u e : TypeId) (nm : String) (i iu : TypeInfo) (hi : P.info? t = some i) (hd : i.desc = .named nm u) (hu : P.info? u = some iu) (hdu : iu.desc = .slice e) (w : World) : (kind t).run P w = .ok 23 w := by
  simp [kind, nm_under t u e nm i iu hi hd hu hdu, hdu, Result.andThen]
theorem nm_valueOf (t u e : TypeId) (nm : String) (i iu : TypeInfo) (hi : P.info? t = some i) (hd : i.desc = .named nm u) (hu : P.info? u = some iu) (hdu : iu.desc = .slice e) (p : Option Addr) (n c : Nat) (w : World) :
    (ReflectliteValue.unpack (.iface t (.slice p n c))).run P w = .ok (.agg #[typeHandle P t, .pointer (some ⟨w.heap.size, 0, none⟩), .int .u64 151]) (w.alloc (.cells #[.slice p n c] t)) := by
  simp [ReflectliteValue.unpack, ReflectliteValue.mk, newVar, newRow, handle, nm_kind t u e nm i iu hi hd hu hdu, Result.andThen, Value.cells, ReflectliteValue.flagIndir]
theorem nm_underlying (t u e : TypeId) (nm : String) (i iu : TypeInfo) (hi : P.info? t = some i) (hd : i.desc = .named nm u) (hu : P.info? u = some iu) (hdu : iu.desc = .slice e) : P.underlying t = some (.slice e) := by
  obtain ⟨d, _, _, _, _, _, _, _, _, _⟩ := i
  obtain ⟨d', _, _, _, _, _, _, _, _, _⟩ := iu
  simp only at hd hdu
  subst hd
  subst hdu
  simp [Program.underlying, hi, hu]
theorem nm_len (t u e : TypeId) (nm : String) (i iu : TypeInfo) (hi : P.info? t = some i) (hd : i.desc = .named nm u) (hu : P.info? u = some iu) (hdu : iu.desc = .slice e) (hpk : P.packed t = false) (a : Addr) (p : Option Addr) (n c : Nat) (w : World) (ha : w.cell? a = some (.slice p n c)) :
    (ReflectliteValue.method (ReflectliteValue.valueError "reflectlite.Value.Len" 0) ReflectliteValue.len #[.agg #[typeHandle P t, .pointer (some a), .int .u64 151]]).run P w = .ok (.int .i64 n) w := by
  have hu' := nm_underlying t u e nm i iu hi hd hu hdu
  rw [rl_method]
  simp only [Sem.run_bind, run_parts t a hpk w, Result.andThen]
  simp [ReflectliteValue.len, nm_under t u e nm i iu hi hd hu hdu, hdu, loadVar, isAgg, underlying, hu', ha, Builtin.len_, goInt, Result.andThen]
theorem nm_elem (t u e : TypeId) (nm : String) (i iu : TypeInfo) (hi : P.info? t = some i) (hd : i.desc = .named nm u) (hu : P.info? u = some iu) (hdu : iu.desc = .slice e) (w : World) : (elem? t).run P w = .ok (some e) w := by
  simp [elem?, nm_under t u e nm i iu hi hd hu hdu, hdu, Result.andThen]
theorem nm_swapper (t u e : TypeId) (nm : String) (i iu ie : TypeInfo) (hi : P.info? t = some i) (hd : i.desc = .named nm u) (hu : P.info? u = some iu) (hdu : iu.desc = .slice e) (hie : P.info? e = some ie) (ke : Nat) (hke : ∀ w, (kind e).run P w = .ok ke w)
    (p : Option Addr) (n c : Nat) (f : Nat) (hf : P.funcs.findIdx? (·.name == "internal/reflectlite" ++ ".Swapper$" ++ toString (swapperK n ie ke)) = some f) (w : World) :
    (ReflectliteSwapper.swapper "internal/reflectlite" (ReflectliteValue.valueError "Swapper") #[.iface t (.slice p n c)]).run P w
      = .ok (.func (.func f) #[] (if swapperK n ie ke ≤ 2 then #[] else #[.slice p n c, typeHandle P e])) w := by
  rw [rl_swapper]
  simp only [Sem.run_bind, nm_elem t u e nm i iu hi hd hu hdu, Result.andThen, rl_info e ie hie, hke, handle, Sem.run_pure]
  change Sem.run P (ReflectliteSwapper.literal "internal/reflectlite" (swapperK n ie ke) (if swapperK n ie ke ≤ 2 then #[] else #[.slice p n c, typeHandle P e])) w = _
  simp at hf
  simp [ReflectliteSwapper.literal, hf, Result.andThen]
end

noncomputable def tiL : TypeInfo := (Tryz.prog.info? 100).get (by kernel_rfl)
noncomputable def tiS : TypeInfo := (Tryz.prog.info? 22).get (by kernel_rfl)
noncomputable def tiE : TypeInfo := (Tryz.prog.info? 24).get (by kernel_rfl)
theorem descL : tiL.desc = .named "petrel/ident.list" 22 := by kernel_rfl
theorem descS : tiS.desc = .slice 24 := by kernel_rfl
theorem infoL : Tryz.prog.info? 100 = some tiL := by kernel_rfl
theorem infoS : Tryz.prog.info? 22 = some tiS := by kernel_rfl
theorem infoE : Tryz.prog.info? 24 = some tiE := by kernel_rfl
theorem kindE (w : World) : (kind 24).run Tryz.prog w = .ok 17 w := by kernel_rfl
theorem litK (n : Nat) (h2 : 2 ≤ n) : swapperK n tiE 17 = 9 := by
  have a : tiE.hasPointers = false := by kernel_rfl
  have b : tiE.bytes = 32 := by kernel_rfl
  have c : (n == 0) = false := by simp; omega
  have d : (n == 1) = false := by simp; omega
  simp [swapperK, a, b, c, d]

/-- the world in which the sort itself is called -/
noncomputable def slW (p : Option Addr) (n c : Nat) (w : World) : World :=
  (w.alloc (.cells #[.slice p n c] 100)).alloc (.cells #[typeHandle Tryz.prog 100, .pointer (some ⟨w.heap.size, 0, none⟩), .int .u64 151] 132)
theorem slW_below (p : Option Addr) (n c : Nat) (w : World) : RowKit.Below w.heap.size w (slW p n c w) := ((RowKit.Below.refl _ w).alloc (Nat.le_refl _) _).alloc (by simp) _

set_option maxHeartbeats 2000000 in
set_option maxRecDepth 100000 in
theorem slice_of_pdq (p : Option Addr) (n c : Nat) (hn : n < 4611686018427387904) (f : Nat) (hf : Tryz.prog.funcs.findIdx? (·.name == "internal/reflectlite" ++ ".Swapper$" ++ toString (swapperK n tiE 17)) = some f) (lf : Fn) (la lb : Array Value) (w : World) (R : World → Prop)
    (hp : Calls Tryz.prog 97 #[.agg #[.func lf la lb, .func (.func f) #[] (sliceBound Tryz.prog 24 tiE 17 p n c)], .int .i64 0, .int .i64 n, .int .i64 (Lib.bitLen n)] (slW p n c w) fun e w' => e = .returned (.tuple #[]) ∧ R w') :
    Calls Tryz.prog 71 #[.iface 100 (.slice p n c), .func lf la lb] w fun e w' => e = .returned (.tuple #[]) ∧ R w' := by
  have L := lays
  have hv := nm_valueOf 100 22 24 _ tiL tiS infoL descL infoS descS p n c w
  have hs := fun w => nm_swapper 100 22 24 _ tiL tiS tiE infoL descL infoS descS infoE 17 kindE p n c f hf w
  have hl := fun a w ha => nm_len 100 22 24 _ tiL tiS infoL descL infoS descS (by kernel_rfl) a p n c w ha
  have hb := fun w => Any.bits_Len (LaysGg.n13.bits (P := Tryz.prog) (ρ := ren) { L with }) (n : Int) w (by omega) (by omega)
  change ∀ w, Calls Tryz.prog 37 _ w _ at hb
  unfold sliceBound slW at hp
  generalize (if swapperK n tiE 17 ≤ 2 then (#[] : Array Value) else #[.slice p n c, typeHandle Tryz.prog 24]) = B at hs hp
  obtain ⟨g, hg⟩ : ∃ g, typeHandle Tryz.prog 100 = .pointer (some ⟨g, 100, none⟩) := ⟨_, rfl⟩
  rw [hg] at hv hp
  simp only [hg] at hl
  clear hg
  have wr : IntKind.u64.wrap (n : Int) = n := by simp [IntKind.wrap, IntKind.bits, IntKind.signed]; omega
  have f10 := L.f10
  have f11 := L.f11
  have f12 := L.f12
  change Tryz.prog.funcs[94]? = _ at f10
  change Tryz.prog.funcs[95]? = _ at f11
  change Tryz.prog.funcs[96]? = _ at f12
  go_enter Tryz.func71, Tryz.ntmps71
  go_wp2_with fail
  rw [run_callFunc_extern f10 (by kernel_rfl) (by kernel_rfl) (by kernel_rfl) (e := fun args => Extern.ReflectliteValue.unpack (args.getD 0 (.tuple #[]))) (by kernel_rfl),
    show Sem.run Tryz.prog ((fun args : Array Value => Extern.ReflectliteValue.unpack (args.getD 0 (.tuple #[]))) #[.iface 100 (.slice p n c)]) w = _ from hv]
  simp only [Result.andThen]
  rw [Oper.upon_value]
  go_wp2_with fail
  rw [run_callFunc_extern f11 (by kernel_rfl) (by kernel_rfl) (by kernel_rfl) (e := Extern.ReflectliteSwapper.swapper "internal/reflectlite" (Extern.ReflectliteValue.valueError "Swapper")) (by kernel_rfl), hs]
  simp only [Result.andThen]
  rw [Oper.upon_value]
  go_wp2_with fail
  rw [run_callFunc_extern f12 (by kernel_rfl) (by kernel_rfl) (by kernel_rfl) (e := Extern.ReflectliteValue.method (Extern.ReflectliteValue.valueError "reflectlite.Value.Len" 0) Extern.ReflectliteValue.len) (by kernel_rfl),
    hl _ _ (by simp)]
  simp only [Result.andThen]
  rw [Oper.upon_value]
  go_wp2_with (first
    | (go_at_call 37; refine (hb _).mono ?_; rintro e w' ⟨rfl, rfl⟩)
    | (go_at_call 97; refine hp.mono ?_; rintro e w' ⟨rfl, hR⟩))
  go_end0
  exact ⟨rfl, hR⟩
end Go.Proofs.YtpeneeddfgmjpaaGreatDoor.srt

namespace Go.Proofs.YtpeneeddfgmjpaaGreatDoor.srt
open Go.Proofs Go.RowKit Go.Proofs.YtpeneeddfgmjpaaGreatDoor.mem Go.Proofs.YtpeneeddfgmjpaaGreatDoor.sha Go.Proofs.YtpeneeddfgmjpaaGreatDoor.ids Go.Sort

def lst (d : Array I32) : List (List UInt8) := d.toList.map (·.1)
theorem lst_len (d : Array I32) : (lst d).length = d.size := by unfold lst; rw [List.length_map, Array.length_toList]
theorem lst_ok (d : Array I32) : okIds (lst d) := fun x hx => by
  unfold lst at hx
  obtain ⟨y, _, rfl⟩ := List.mem_map.1 hx
  exact y.2
theorem lst_get (d : Array I32) {i : Nat} (hi : i < d.size) : (lst d).getD i [] = (d[i]!).1 := by
  unfold lst
  rw [List.getD_eq_getElem?_getD, List.getElem?_map, Array.getElem?_toList, Array.getElem?_eq_getElem hi, getElem!_pos d i hi]
  rfl
theorem lst_of : ∀ L : List (List UInt8), okIds L → ∃ d : Array I32, lst d = L
  | [], _ => ⟨#[], rfl⟩
  | x :: L, h => by
    obtain ⟨d, hd⟩ := lst_of L fun y hy => h y (List.mem_cons_of_mem _ hy)
    refine ⟨⟨⟨x, h x List.mem_cons_self⟩ :: d.toList⟩, ?_⟩
    unfold lst at hd ⊢
    rw [List.map_cons, hd]
theorem flat_eq (d : Array I32) : flatK enc 32 d = (fl (lst d)).toArray := by
  have hs : (flatK enc 32 d).size = d.size * 32 := by unfold flatK; rw [Array.size_map, Array.size_range]
  apply Array.ext'
  rw [List.toList_toArray]
  apply List.ext_getElem?
  intro k
  by_cases hk : k < d.size * 32
  · have e1 := fl_get (L := lst d) (lst_ok d) (i := k / 32) (j := k % 32) (by rw [lst_len]; omega) (by omega)
    rw [show k / 32 * 32 + k % 32 = k by omega, lst_get d (by omega)] at e1
    rw [e1, Array.getElem?_toList, Array.getElem?_eq_getElem (by rw [hs]; exact hk)]
    unfold flatK
    rw [Array.getElem_map, Array.getElem_range]
    have e2 := bv_get (d[k / 32]!).1 (k % 32) (by rw [(d[k / 32]!).2]; omega)
    unfold enc
    rw [List.getElem!_eq_getElem?_getD, e2]
    rfl
  · rw [List.getElem?_eq_none (by rw [Array.length_toList, hs]; omega), List.getElem?_eq_none (by rw [fl_len (lst_ok d), lst_len]; omega)]

section
variable {blk off n : Nat} {d : Array I32} {w : World}
theorem St.cells (h : St blk off n d w) : ∀ k v, (fl (lst d))[k]? = some v → w.cell? ⟨blk, off + k, none⟩ = some v := fun k v hv => by
  have hk : k < (flatK enc 32 d).size := by
    rw [flat_eq, List.size_toArray]
    exact (List.getElem?_eq_some_iff.1 hv).1
  rw [(h.holds k hk).1]
  have e : (flatK enc 32 d)[k]? = some v := by rw [flat_eq, List.getElem?_toArray, hv]
  rw [Array.getElem?_eq_getElem hk] at e
  injection e with e
  rw [getElem!_pos _ k hk, e]
  rfl
theorem St.of {t : TypeId} {cur : Array Value} (hb : w.heap[blk]? = some (.cells cur t (0, 0))) (hd : d.size = n) (hc : ∀ k v, (fl (lst d))[k]? = some v → cur[off + k]? = some v) : St blk off n d w := by
  refine ⟨hd, fun j hj => ?_, (Array.getElem?_eq_some_iff.1 hb).1⟩
  have hx : (fl (lst d))[j]? = some (flatK enc 32 d)[j]! := by
    rw [getElem!_pos _ j hj, ← Array.getElem?_eq_getElem hj, flat_eq, List.getElem?_toArray]
  have hB : Blk w blk t cur := hb
  exact ⟨(hB.cell (off + j)).trans (hc j _ hx), hB.frozen (off + j)⟩
theorem St.load (h : St blk off n d w) {i : Nat} (hi : i < n) : (Instr.loadAt 24 (.pointer (some ⟨blk, off + i * 32, none⟩))).run Tryz.prog w = .ok (.agg (bv (d[i]!).1).toArray) w := by
  have := run_load_id (w := w) (lst_ok d) h.cells (i := i) (by rw [lst_len, h.size]; exact hi)
  rw [lst_get d (by rw [h.size]; exact hi)] at this
  exact this
theorem St.rdv (h : St blk off n d w) {cap : Nat} (h1 : n ≤ cap) (h2 : cap ≤ maxLen) (h3 : n ≤ 4398046511104) : RdV w (.slice (some ⟨blk, off, none⟩) n cap) (lst d) := by
  have e : (lst d).length = n := (lst_len d).trans h.size
  refine ⟨lst_ok d, by omega, some ⟨blk, off, none⟩, cap, by rw [e], by omega, h2, (fun h => by cases h), fun a ha _ => ⟨blk, off, by injection ha with ha; exact ha.symm⟩, .inr ⟨blk, off, rfl, h.lt, h.cells⟩⟩
end

structure AhS (blk off n : Nat) (d : Array I32) (w0 w : World) : Prop where
  st : St blk off n d w
  below : RowKit.Below w0.heap.size w0 w
theorem AhS.next {blk off n : Nat} {d : Array I32} {w0 w w' : World} (h : AhS blk off n d w0 w) (hb : RowKit.Below w.heap.size w w') : AhS blk off n d w0 w' := ⟨h.st.below hb, h.below.trans (hb.mono h.below.size)⟩
theorem lt_int (x y : I32) {c : Int} (hc : cmpL x.1 y.1 = c) : decide (c < 0) = lt x y := by subst hc; rfl

set_option maxHeartbeats 2000000 in
set_option maxRecDepth 100000 in
theorem ahead_any (blk off n cap : Nat) (d : Array I32) (w : World) (i j : Nat) (hs : St blk off n d w) (hi : i < n) (hj : j < n) :
    Calls Tryz.prog 70 #[.slice (some ⟨blk, off, none⟩) n cap, .int .i64 i, .int .i64 j] w fun e w' => e = .returned (.bool (lt d[i]! d[j]!)) ∧ RowKit.Below w.heap.size w w' := by
  have HS := Lib.hid (show AhS blk off n d w w from ⟨hs, RowKit.Below.refl _ _⟩)
  obtain ⟨x, hx⟩ : ∃ x, x = (d[i]!) := ⟨_, rfl⟩
  obtain ⟨y, hy⟩ : ∃ y, y = (d[j]!) := ⟨_, rfl⟩
  have HX := Lib.hid (fun (w : World) (h : St blk off n d w) => h.load hi)
  have HY := Lib.hid (fun (w : World) (h : St blk off n d w) => h.load hj)
  rw [← hx] at HX
  rw [← hy] at HY
  obtain ⟨c, hc⟩ : ∃ c, cmpL x.1 y.1 = c := ⟨_, rfl⟩
  have HL := Lib.hid (lt_int x y hc)
  rw [← hx, ← hy]
  have i0 : (0 : Int) ≤ (i : Int) := Int.natCast_nonneg _
  have j0 : (0 : Int) ≤ (j : Int) := Int.natCast_nonneg _
  have iI : (i : Int) < (n : Int) := by omega
  have jI : (j : Int) < (n : Int) := by omega
  have HC := Lib.hid (fun w : World => compare_any x.1 y.1 w x.2 y.2)
  rw [hc] at HC
  clear hs hx hy hc
  go_enter Tryz.func70, Tryz.ntmps70
  go_upto_region 1 with fail
  refine wp_region_held_drew (S := AhS blk off n d w) (by kernel_rfl) ?_ (fun hHeld => ?_)
  · exact HS.out.next ((RowKit.Below.refl _ _).drew)
  refine' wpAnyH_take (i := 0) ?hiah0 (by kernel_rfl) (by kernel_rfl) (by kernel_rfl) ?hqah0 (Or.inl ⟨?hwah0, ?hyah0⟩) (by assumption) ?hrah0
  case hiah0 => (simp only [List.getElem?_toArray, List.getElem?_cons_zero]; rfl)
  case hqah0 => exact fun _ _ _ h => h
  case hwah0 => rfl
  case hyah0 => (intro w0 hSw; (try dsimp only at hSw); go_simp; try with_reducible rfl)
  (try simp only [Act.put, List.setIfInBounds_toArray, List.set_cons_zero, List.set_cons_succ])
  refine' wpAnyH_take (i := 1) ?hiah1 (by kernel_rfl) (by kernel_rfl) (by kernel_rfl) ?hqah1 (Or.inl ⟨?hwah1, ?hyah1⟩) (by assumption) ?hrah1
  case hiah1 => (simp only [List.getElem?_toArray, List.getElem?_cons_succ, List.getElem?_cons_zero]; rfl)
  case hqah1 => exact fun _ _ _ h => h
  case hwah1 => rfl
  case hyah1 => (intro w0 hSw; (try dsimp only at hSw); go_simp; try with_reducible rfl)
  (try simp only [Act.put, List.setIfInBounds_toArray, List.set_cons_zero, List.set_cons_succ])
  refine' wpAnyH_take (i := 2) ?hiah2 (by kernel_rfl) (by kernel_rfl) (by kernel_rfl) ?hqah2 (Or.inl ⟨?hwah2, ?hyah2⟩) (by assumption) ?hrah2
  case hiah2 => (simp only [List.getElem?_toArray, List.getElem?_cons_succ, List.getElem?_cons_zero]; rfl)
  case hqah2 => exact fun _ _ _ h => h
  case hwah2 => rfl
  case hyah2 => (intro w0 hSw; (try dsimp only at hSw); go_simp; try with_reducible rfl)
  (try simp only [Act.put, List.setIfInBounds_toArray, List.set_cons_zero, List.set_cons_succ])
  refine' wpAnyH_take (i := 3) ?hiah3 (by kernel_rfl) (by kernel_rfl) (by kernel_rfl) ?hqah3 (Or.inl ⟨?hwah3, ?hyah3⟩) (by assumption) ?hrah3
  case hiah3 => (simp only [List.getElem?_toArray, List.getElem?_cons_succ, List.getElem?_cons_zero]; rfl)
  case hqah3 => exact fun _ _ _ h => h
  case hwah3 => rfl
  case hyah3 => exact fun w0 hSw => run_exec_load rfl rfl (HX.out _ hSw.st)
  (try simp only [Act.put, List.setIfInBounds_toArray, List.set_cons_zero, List.set_cons_succ])
  refine' wpAnyH_take (i := 4) ?hiah4 (by kernel_rfl) (by kernel_rfl) (by kernel_rfl) ?hqah4 (Or.inl ⟨?hwah4, ?hyah4⟩) (by assumption) ?hrah4
  case hiah4 => (simp only [List.getElem?_toArray, List.getElem?_cons_succ, List.getElem?_cons_zero]; rfl)
  case hqah4 => exact fun _ _ _ h => h
  case hwah4 => rfl
  case hyah4 => (intro w0 hSw; (try dsimp only at hSw); go_simp; try with_reducible rfl)
  (try simp only [Act.put, List.setIfInBounds_toArray, List.set_cons_zero, List.set_cons_succ])
  refine' wpAnyH_take (i := 5) ?hiah5 (by kernel_rfl) (by kernel_rfl) (by kernel_rfl) ?hqah5 (Or.inl ⟨?hwah5, ?hyah5⟩) (by assumption) ?hrah5
  case hiah5 => (simp only [List.getElem?_toArray, List.getElem?_cons_succ, List.getElem?_cons_zero]; rfl)
  case hqah5 => exact fun _ _ _ h => h
  case hwah5 => rfl
  case hyah5 => (intro w0 hSw; (try dsimp only at hSw); go_simp; try with_reducible rfl)
  (try simp only [Act.put, List.setIfInBounds_toArray, List.set_cons_zero, List.set_cons_succ])
  refine' wpAnyH_take (i := 6) ?hiah6 (by kernel_rfl) (by kernel_rfl) (by kernel_rfl) ?hqah6 (Or.inl ⟨?hwah6, ?hyah6⟩) (by assumption) ?hrah6
  case hiah6 => (simp only [List.getElem?_toArray, List.getElem?_cons_succ, List.getElem?_cons_zero]; rfl)
  case hqah6 => exact fun _ _ _ h => h
  case hwah6 => rfl
  case hyah6 => (intro w0 hSw; (try dsimp only at hSw); go_simp; try with_reducible rfl)
  (try simp only [Act.put, List.setIfInBounds_toArray, List.set_cons_zero, List.set_cons_succ])
  refine' wpAnyH_take (i := 7) ?hiah7 (by kernel_rfl) (by kernel_rfl) (by kernel_rfl) ?hqah7 (Or.inl ⟨?hwah7, ?hyah7⟩) (by assumption) ?hrah7
  case hiah7 => (simp only [List.getElem?_toArray, List.getElem?_cons_succ, List.getElem?_cons_zero]; rfl)
  case hqah7 => exact fun _ _ _ h => h
  case hwah7 => rfl
  case hyah7 => exact fun w0 hSw => run_exec_load rfl rfl (HY.out _ hSw.st)
  (try simp only [Act.put, List.setIfInBounds_toArray, List.set_cons_zero, List.set_cons_succ])
  refine wpAnyH_ready (rs := [8]) (by kernel_rfl) (by simp) ?_
  refine' AllReadyH.cons ?hiah8 (fun K hK => ?hrah8) AllReadyH.nil
  case hiah8 => (simp only [List.getElem?_toArray, List.getElem?_cons_succ, List.getElem?_cons_zero]; rfl)
  go_simp
  refine (HC.out _).mono ?_; rintro e wA ⟨rfl, hbA⟩
  refine hK.out _ _ ?_ (fun hHeld => ?_)
  · exact hHeld.next hbA
  clear hK K
  (try simp only [Act.put, List.setIfInBounds_toArray, List.set_cons_zero, List.set_cons_succ])
  refine' wpAnyH_take (i := 9) ?hiah9 (by kernel_rfl) (by kernel_rfl) (by kernel_rfl) ?hqah9 (Or.inl ⟨?hwah9, ?hyah9⟩) (by assumption) ?hrah9
  case hiah9 => (simp only [List.getElem?_toArray, List.getElem?_cons_succ, List.getElem?_cons_zero]; rfl)
  case hqah9 => exact fun _ _ _ h => h
  case hwah9 => rfl
  case hyah9 => (intro w0 hSw; (try dsimp only at hSw); go_simp; try with_reducible rfl)
  (try simp only [Act.put, List.setIfInBounds_toArray, List.set_cons_zero, List.set_cons_succ])
  refine' wpAnyH_take (i := 10) ?hiah10 (by kernel_rfl) (by kernel_rfl) (by kernel_rfl) ?hqah10 (Or.inl ⟨?hwah10, ?hyah10⟩) (by assumption) ?hrah10
  case hiah10 => (simp only [List.getElem?_toArray, List.getElem?_cons_succ, List.getElem?_cons_zero]; rfl)
  case hqah10 => exact fun _ _ _ h => h
  case hwah10 => rfl
  case hyah10 => (intro w0 hSw; (try dsimp only at hSw); go_simp; try with_reducible rfl)
  (try simp only [Act.put, List.setIfInBounds_toArray, List.set_cons_zero, List.set_cons_succ])
  refine wpAnyH_done (by kernel_rfl) ?_ _
  go_wp2_with fail
  go_ret
  rw [HL.out]
  exact ⟨rfl, hHeld.below⟩

/-- less and swap of the row, as the sort is handed them -/
theorem env_any (blk off n cap : Nat) : Env (.slice (some ⟨blk, off, none⟩) n cap) (typeHandle Tryz.prog 24) blk off n :=
  ⟨fun d w i j hs hi hj => ahead_any blk off n cap d w i j hs hi hj, fun d w i j hs hi hj => swap_holds blk off n cap d w i j hs hi hj⟩

/-- sort.Slice over a row of ids: it sorts -/
theorem slice_any (blk off n cap : Nat) (d : Array I32) (w : World) (hs : St blk off n d w) (h2 : 2 ≤ n) (hn : n ≤ 1000000000) :
    Calls Tryz.prog 71 #[.iface 100 (.slice (some ⟨blk, off, none⟩) n cap), .func (.func 70) #[.slice (some ⟨blk, off, none⟩) n cap] #[]] w fun e w' => e = .returned (.tuple #[]) ∧ ∃ d', PermIn 0 n d d' ∧ SortedIn lt 0 n d' ∧ St blk off n d' w' ∧ Tr blk w w' := by
  have hb := slW_below (some ⟨blk, off, none⟩) n cap w
  refine slice_of_pdq (some ⟨blk, off, none⟩) n cap (by omega) 122 (by rw [litK n h2]; kernel_rfl) _ _ _ w _ ?_
  unfold sliceBound
  rw [litK n h2]
  have hl : Lib.bitLen n ≤ 62 := Lib.bitLen_le n 62 (by omega) (by omega)
  have h := pdq_any (env_any blk off n cap) hn (n + 1) 0 n (Lib.bitLen n) d (slW (some ⟨blk, off, none⟩) n cap w) (by omega) (hs.below hb) (Nat.zero_le _) (Nat.le_refl _) (by omega) (.inl rfl)
  refine Calls.mono h ?_
  rintro e w' ⟨he, d', hp, hq, hst, ht⟩
  exact ⟨he, d', hp, hq, hst, (Tr.below hb).trans ht⟩
/-- .. of none or one -/
theorem slice_tiny (p : Option Addr) (n cap : Nat) (w : World) (h1 : n ≤ 1) (lf : Fn) (la lb : Array Value) :
    Calls Tryz.prog 71 #[.iface 100 (.slice p n cap), .func lf la lb] w fun e w' => e = .returned (.tuple #[]) ∧ RowKit.Below w.heap.size w w' := by
  have hb := slW_below p n cap w
  have hf : ∃ f, Tryz.prog.funcs.findIdx? (·.name == "internal/reflectlite" ++ ".Swapper$" ++ toString (Lib.swapperK n tiE 17)) = some f := by
    rcases Nat.lt_or_ge 0 n with h | h
    · obtain rfl : n = 1 := by omega
      exact ⟨115, by kernel_rfl⟩
    · obtain rfl : n = 0 := by omega
      exact ⟨114, by kernel_rfl⟩
  obtain ⟨f, hf⟩ := hf
  refine slice_of_pdq p n cap (by omega) f hf lf la lb w _ ?_
  have h := Any.pdqsort_func_tiny (P := Tryz.prog) (ρ := ren) { lays with } lf la lb f (sliceBound Tryz.prog 24 tiE 17 p n cap) n h1 (Lib.bitLen n) (slW p n cap w)
  refine Calls.mono h ?_
  rintro e w' ⟨rfl, rfl⟩
  exact ⟨rfl, (hb.alloc (by have := hb.size; omega) _).alloc (by have := hb.size; simp; omega) _⟩
end Go.Proofs.YtpeneeddfgmjpaaGreatDoor.srt

namespace Go.Proofs.YtpeneeddfgmjpaaGreatDoor.ids
open Go.RowKit Go.Proofs.YtpeneeddfgmjpaaGreatDoor.mem Go.Proofs.YtpeneeddfgmjpaaGreatDoor.sha Go.Proofs.YtpeneeddfgmjpaaGreatDoor.srt

/-- a list of the call's own as a row that is being sorted, and back -/
theorem OwnI.st {w : World} {F : Nat → Prop} {g n cap : Nat} {L : List (List UInt8)} (h : OwnI w F (.slice (some ⟨g, 0, none⟩) n cap) L) : ∃ d : Array I32, lst d = L ∧ n = L.length ∧ St g 0 L.length d w := by
  obtain ⟨d, hd⟩ := lst_of L h.1
  rcases h.2.1.2 with ⟨e, _⟩ | ⟨g', cap', cur, e, hb, hh, hle, hcm, hcs, htk⟩
  · cases e
  · cases e
    have hlen : d.size = L.length := by rw [← lst_len, hd]
    refine ⟨d, hd, rfl, St.of hh hlen fun k v hv => ?_⟩
    rw [hd, ← htk, List.getElem?_take] at hv
    split at hv
    · rw [Nat.zero_add, ← Array.getElem?_toList]; exact hv
    · cases hv
theorem St_own {w : World} {F : Nat → Prop} {g n cap : Nat} {d : Array I32} {cur : Array Value} (h : St g 0 n d w) (hh : w.heap[g]? = some (.cells cur 24 (0, 0))) (hcs : cur.size = cap * 32) (h1 : n ≤ cap) (h2 : cap ≤ maxLen) (hF : F g) :
    OwnI w F (.slice (some ⟨g, 0, none⟩) n cap) (lst d) := by
  have hlen : (lst d).length = n := (lst_len d).trans h.size
  have hfl := fl_len (lst_ok d)
  rw [hlen] at hfl
  refine ⟨lst_ok d, ⟨by rw [hfl, hlen], .inr ⟨g, cap, cur, by rw [hlen], Nat.zero_le _, hh, by rw [hlen]; exact h1, h2, hcs, ?_⟩⟩, fun k hk => by injection hk with hk; subst hk; exact hF⟩
  rw [hlen]
  apply List.ext_getElem?
  intro k
  rw [List.getElem?_take, Array.getElem?_toList]
  by_cases hk : k < n * 32
  · rw [if_pos hk, List.getElem?_eq_getElem (by rw [hfl]; exact hk)]
    have := h.cells k _ (List.getElem?_eq_getElem (by rw [hfl]; exact hk))
    rw [Nat.zero_add, (show Blk w g 24 cur from hh).cell k] at this
    exact this
  · rw [if_neg hk, List.getElem?_eq_none (by rw [hfl]; omega)]

theorem ahead_own {w : World} {F : Nat → Prop} {v : Value} {L : List (List UInt8)} (h : OwnI w F v L) {i j : Nat} (hi : i < L.length) (hj : j < L.length) :
    Calls Tryz.prog 70 #[v, .int .i64 i, .int .i64 j] w fun e w' => e = .returned (.bool (decide (cmpL (L.getD i []) (L.getD j []) < 0))) ∧ Below w.heap.size w w' := by
  obtain ⟨ad, cap, rfl, hr, _⟩ := h.form
  obtain ⟨b, off, rfl, _⟩ := hr.load h.1 hi
  have h0 : off = 0 := by
    rcases h.2.1.2 with ⟨e, _⟩ | ⟨g, c, cur, e, _⟩
    · cases e
    · cases e; rfl
  subst h0
  obtain ⟨d, hd, _, hs⟩ := h.st
  have hsz : d.size = L.length := by rw [← lst_len, hd]
  have hA := ahead_any b 0 L.length cap d w i j hs hi hj
  have e : lt d[i]! d[j]! = decide (cmpL (L.getD i []) (L.getD j []) < 0) := by
    rw [← hd, lst_get d (by omega), lst_get d (by omega)]
    rfl
  rw [e] at hA
  exact hA

/-- in order, though some may come more than once -/
def Weak (S : List (List UInt8)) : Prop := ∀ i j, i < j → j < S.length → ¬ cmpL (S.getD j []) (S.getD i []) < 0
theorem sort_own {w : World} {F : Nat → Prop} {v : Value} {L : List (List UInt8)} (h : OwnI w F v L) (hm : L.length ≤ 1000000) :
    Calls Tryz.prog 71 #[.iface 100 v, .func (.func 70) #[v] #[]] w fun e w' => e = .returned (.tuple #[]) ∧ ∃ S, S.Perm L ∧ Weak S ∧ OwnI w' F v S ∧ Turn (fun k => v.ownBlock = some k ∨ w.heap.size ≤ k) w w' := by
  by_cases h2 : 2 ≤ L.length
  · rcases h.2.1.2 with ⟨rfl, hn⟩ | ⟨g, cap, cur, rfl, hb, hh, hle, hcm, hcs, htk⟩
    · omega
    obtain ⟨d, hd, _, hs⟩ := h.st
    have hsz : d.size = L.length := by rw [← lst_len, hd]
    refine (slice_any g 0 L.length cap d w hs h2 (by omega)).mono ?_
    rintro e w' ⟨rfl, d', hp, hq, hst, ht⟩
    obtain ⟨cur', hc', he'⟩ := ht.keeps _ _ _ hh
    refine ⟨rfl, lst d', ?_, ?_, St_own hst hc' (he'.trans hcs) hle hcm (h.2.2 g rfl), ht.turn.mono fun k hk => hk.imp (fun e => by rw [e]; rfl) id⟩
    · have hpp := hp.2.2
      have e1 : d'.extract 0 L.length = d' := by rw [← hst.size]; exact Array.extract_size
      have e2 : d.extract 0 L.length = d := by rw [← hsz]; exact Array.extract_size
      rw [e1, e2] at hpp
      rw [← hd]
      exact hpp.map _
    · intro i j hij hj
      rw [lst_len, hst.size] at hj
      have := hq i j (Nat.zero_le _) hij hj
      rw [lst_get d' (by rw [hst.size]; exact hj), lst_get d' (by rw [hst.size]; omega)]
      exact of_decide_eq_false this
  · obtain ⟨ad, cap, rfl, _⟩ := h.form
    refine (slice_tiny ad L.length cap w (by omega) _ _ _).mono ?_
    rintro e w' ⟨rfl, hb⟩
    exact ⟨rfl, L, List.Perm.refl _, fun i j hij hj => by omega, h.below hb, (Turn.ofBelow hb).mono fun k hk => .inr hk⟩

/-- what the loop of Set keeps: L' begins with the set of what has been seen -/
structure Comp (S L : List (List UInt8)) (i n : Nat) : Prop where
  len : L.length = S.length
  le : n ≤ i
  tail : ∀ j, i ≤ j → L.getD j [] = S.getD j []
  sorted : Sorted (L.take n)
  mem : ∀ y, y ∈ L.take n ↔ y ∈ S.take i
theorem Comp.start (S : List (List UInt8)) : Comp S S 0 0 := ⟨rfl, Nat.le_refl _, fun _ _ => rfl, by rw [List.take_zero]; exact List.Pairwise.nil, fun y => by simp only [List.take_zero]⟩
theorem take_succ' (S : List (List UInt8)) {i : Nat} (hi : i < S.length) : S.take (i + 1) = S.take i ++ [S.getD i []] := by
  rw [List.take_add_one, List.getD_eq_getElem?_getD, List.getElem?_eq_getElem hi]
  rfl
theorem Comp.pos {S L : List (List UInt8)} {i n : Nat} (h : Comp S L i n) (hi : 0 < i) (hl : i ≤ S.length) : 0 < n := by
  rcases Nat.eq_zero_or_pos n with rfl | hn
  · have := (h.mem (S.getD 0 [])).2 (by
      obtain ⟨k, rfl⟩ : ∃ k, i = k + 1 := ⟨i - 1, by omega⟩
      cases S with
      | nil => simp at hl
      | cons x S => simp)
    rw [List.take_zero] at this
    cases this
  · exact hn
theorem take_set_succ (L : List (List UInt8)) {n : Nat} (hn : n < L.length) (x : List UInt8) : (L.set n x).take (n + 1) = L.take n ++ [x] := by
  rw [take_succ' _ (by rw [List.length_set]; exact hn), List.take_set_of_le (Nat.le_refl _), List.getD_eq_getElem?_getD, List.getElem?_set_self hn]
  rfl
theorem Comp.keep {S L : List (List UInt8)} {i n : Nat} (h : Comp S L i n) (hi : i < S.length) (hlt : n = 0 ∨ cmpL (L.getD (n - 1) []) (L.getD i []) < 0) : Comp S (L.set n (L.getD i [])) (i + 1) (n + 1) := by
  have hle := h.le
  have hlen := h.len
  refine ⟨by rw [List.length_set]; exact h.len, by omega, fun j hj => ?_, ?_, fun y => ?_⟩
  · rw [List.getD_eq_getElem?_getD, List.getElem?_set_ne (by omega), ← List.getD_eq_getElem?_getD]
    exact h.tail j (by omega)
  · rw [take_set_succ L (by omega)]
    refine List.pairwise_append.2 ⟨h.sorted, List.pairwise_singleton _ _, fun a ha b hb => ?_⟩
    rw [List.mem_singleton.1 hb]
    rcases hlt with rfl | hlt
    · rw [List.take_zero] at ha; cases ha
    · rcases Nat.eq_zero_or_pos n with rfl | hn
      · rw [List.take_zero] at ha; cases ha
      have e : L.take n = L.take (n - 1) ++ [L.getD (n - 1) []] := by
        have := take_succ' L (i := n - 1) (by omega)
        rwa [show n - 1 + 1 = n by omega] at this
      have hs := h.sorted
      rw [e] at ha hs
      rcases List.mem_append.1 ha with ha | ha
      · have h1 := (List.pairwise_append.1 hs).2.2 a ha _ (List.mem_singleton.2 rfl)
        exact cmpL_trans _ _ _ h1 hlt
      · rw [List.mem_singleton.1 ha]; exact hlt
  · rw [take_set_succ L (by omega), take_succ' S hi, List.mem_append, List.mem_append, h.mem y, List.mem_singleton, List.mem_singleton, h.tail i (Nat.le_refl _)]
theorem Comp.skip {S L : List (List UInt8)} {i n : Nat} (h : Comp S L i n) (hW : Weak S) (hi : i < S.length) (hn : 0 < n) (hlt : ¬ cmpL (L.getD (n - 1) []) (L.getD i []) < 0) : Comp S L (i + 1) n := by
  have hle := h.le
  have hlen := h.len
  refine ⟨h.len, by omega, fun j hj => h.tail j (by omega), h.sorted, fun y => ?_⟩
  have hin : L.getD (n - 1) [] ∈ L.take n := by
    have := take_succ' L (i := n - 1) (by omega)
    rw [show n - 1 + 1 = n by omega] at this
    rw [this]
    exact List.mem_append.2 (.inr (List.mem_singleton.2 rfl))
  have hin2 := (h.mem _).1 hin
  obtain ⟨k, hk, he⟩ := List.getElem_of_mem hin2
  rw [List.length_take] at hk
  rw [List.getElem_take] at he
  have hki : k < i := by omega
  have hw := hW k i hki hi
  rw [show S.getD k [] = L.getD (n - 1) [] by rw [← he, List.getD_eq_getElem?_getD, List.getElem?_eq_getElem (by omega)]; rfl] at hw
  rw [h.tail i (Nat.le_refl _)] at hlt
  have heq : S.getD i [] = L.getD (n - 1) [] := by
    have h1 := cmpL_neg (L.getD (n - 1) []) (S.getD i [])
    exact (cmpL_zero _ _ (by omega)).symm
  rw [take_succ' S hi, List.mem_append, h.mem y, List.mem_singleton]
  constructor
  · exact .inl
  · rintro (h1 | h1)
    · exact h1
    · rw [h1, heq]; exact hin2
theorem Comp.done {S L : List (List UInt8)} {n : Nat} (h : Comp S L S.length n) : L.take n = setL S := by
  refine sorted_ext _ _ h.sorted (setL_sorted S) fun y => ?_
  rw [h.mem y, List.take_length, mem_setL]
/-- a beginning of a list of the call's own -/
theorem OwnI.cut {w : World} {F : Nat → Prop} {g n cap : Nat} {L : List (List UInt8)} (h : OwnI w F (.slice (some ⟨g, 0, none⟩) n cap) L) {k : Nat} (hk : k ≤ L.length) : OwnI w F (.slice (some ⟨g, 0, none⟩) k cap) (L.take k) := by
  rcases h.2.1.2 with ⟨e, _⟩ | ⟨g', cap', cur, e, hb, hh, hle, hcm, hcs, htk⟩
  · cases e
  · cases e
    have hl : (L.take k).length = k := by rw [List.length_take]; omega
    refine ⟨h.1.take k, ⟨by rw [fl_len (h.1.take k)], .inr ⟨g, cap, cur, by rw [hl], hb, hh, by omega, hcm, hcs, ?_⟩⟩, fun j hj => h.2.2 j hj⟩
    rw [hl, ← fl_take k h.1, ← htk, List.take_take, Nat.min_eq_left (by omega)]

set_option maxHeartbeats 2000000 in
set_option maxRecDepth 100000 in
theorem set_any (L : List (List UInt8)) (v : Value) (w : World) (hR : RdV w v L) (hm : L.length ≤ 100000) : Calls Tryz.prog 39 #[v] w fun e w' => ∃ v', e = .returned v' ∧ OwnI w' (w.heap.size ≤ ·) v' (setL L) ∧ Below w.heap.size w w' := by
  have HC := Lib.hid (iclone_any hR (by omega))
  have en := srt.enters_less
  clear hR
  go_enter Tryz.func39, Tryz.ntmps39
  go_wp2_with (first
    | (go_at_call 71; (with_reducible refine HS.out.mono ?_); rintro e w2 ⟨rfl, S, hP, hW, hO, hT⟩)
    | (go_at_call 69; (with_reducible refine HC.out.mono ?_); rintro e w1 ⟨v1, rfl, hO1, hB1⟩; obtain ⟨ad1, cap1, rfl, -, -⟩ := hO1.form; have HO1 := Lib.hid hO1; have HB1 := Lib.hid hB1; have HS := Lib.hid (sort_own hO1 (by omega)); clear hO1 hB1 HC))
  have HP := Lib.hid hP
  have HW := Lib.hid hW
  have HO := Lib.hid hO
  have hlen : S.length = L.length := hP.length_eq
  have HB := Lib.hid (HB1.out.trans (hT.below fun k hk => hk.elim (fun h => HO1.out.2.2 k h) (fun h => Nat.le_trans HB1.out.size h)))
  clear hP hW hO hT HO1 HB1 HS
  go_loopg [5, 6, 17] L.length (fun gk s5 s6 s17 wr => ∃ (i n : Nat) (L' : List (List UInt8)), s5 = .int .i64 n ∧ s17 = .int .i64 i ∧ n ≤ i ∧ i ≤ L.length ∧ L.length - i ≤ gk ∧ L'.length = L.length ∧ Hid (OwnI wr (w.heap.size ≤ ·) (.slice ad1 L.length cap1) L') ∧ Hid (Comp S L' i n) ∧ Hid (Below w.heap.size w wr))
  case atStart => exact ⟨0, 0, S, rfl, rfl, Nat.le_refl _, Nat.zero_le _, by omega, hlen, HO, Lib.hid (Comp.start S), HB⟩
  case round =>
    obtain ⟨i, n, L', rfl, rfl, hni, hiL, hgk, hL', HO2, HC2, HB2⟩ := hrel
    clear HO HB
    by_cases hlt : i < L.length
    · have hltz : (i : Int) < (L.length : Int) := by omega
      obtain ⟨b, c, w0, hv, _, _, _, _⟩ := HO2.out.store (i := i) (by omega) (y := List.replicate 32 0) rfl
      obtain ⟨rfl, rfl⟩ : ad1 = some ⟨b, 0, none⟩ ∧ cap1 = c := by injection hv with e1 e2 e3; exact ⟨e1, e3⟩
      clear hv
      obtain ⟨y, hy⟩ : ∃ y, y = L'.getD i [] := ⟨_, rfl⟩
      have hy32 : y.length = 32 := by rw [hy]; exact HO2.out.1.get (by omega)
      have HY := Lib.hid hy
      clear hy
      have i0 : (0 : Int) ≤ (i : Int) := Int.natCast_nonneg _
      have n0 : (0 : Int) ≤ (n : Int) := Int.natCast_nonneg _
      have nI : (n : Int) < (L.length : Int) := by omega
      by_cases hn : n = 0
      · subst hn
        have hld : (Instr.loadAt 24 (.pointer (some ⟨b, i * 32, none⟩))).run Tryz.prog wr = .ok (.agg (bv y).toArray) wr := by
          have := (HO2.out.rdv (by omega)).1
          rw [← hL'] at this
          have := this.load_y (i := i) (y := y) (by omega) HY.out.symm
          rwa [Nat.zero_add] at this
        obtain ⟨b', c', w4, hv, _, hst, hO4, hT4⟩ := HO2.out.store (i := 0) (by omega) (y := y) hy32
        obtain ⟨rfl, rfl⟩ : b = b' ∧ cap1 = c' := by injection hv with e1 e2 e3; injection e1 with e1; injection e1 with e1; exact ⟨e1, e3⟩
        clear hv
        rw [Nat.zero_mul] at hst
        have HO4 := Lib.hid hO4
        have HT4 := Lib.hid hT4
        clear hO4 hT4
        go_wp2_with (first
          | ((with_reducible refine step_load (t := 24) (x := .tmp 33) (p := ?lpld1) (v := ?lvld1) ?lgld1 ?lold1 ?lxld1 ?lrld1 ?lhld1); (case lgld1 => rfl); (case lold1 => rfl); (case lxld1 => rfl); (case lrld1 => exact hld))
          | ((with_reducible refine step_store_at (x := .tmp 35) (y := .tmp 34) (p := ?wpst1) (v := ?wvst1) (w' := ?wwst1) ?wgst1 ?wost1 ?wxst1 ?wyst1 ?wrst1 ?whst1); (case wgst1 => rfl); (case wost1 => rfl); (case wxst1 => rfl); (case wyst1 => rfl); (case wrst1 => exact hst)))
        go_roundg (L.length - (i + 1))
        case measure => omega
        case rel => exact ⟨i + 1, 1, _, by go_num, by go_num, by omega, by omega, by omega, by rw [List.length_set]; exact hL', HO4, Lib.hid (by rw [HY.out]; exact HC2.out.keep (by omega) (.inl rfl)), Lib.hid (HB2.out.trans (HT4.out.below fun k hk => by rw [hk]; exact HO2.out.2.2 b rfl))⟩
      · have hnb : ((n : Int) == 0) = false := beq_eq_false_iff_ne.2 (by omega)
        have hA := ahead_own HO2.out (i := n - 1) (j := i) (by omega) (by omega)
        rw [show ((n - 1 : Nat) : Int) = (n : Int) - 1 by omega] at hA
        by_cases hc : cmpL (L'.getD (n - 1) []) (L'.getD i []) < 0
        · rw [decide_eq_true hc] at hA
          have HA := Lib.hid hA
          have HK := Lib.hid (HC2.out.keep (by omega) (.inr hc))
          clear hA hc
          go_wp2_with (first
            | (go_at_fn 70; (with_reducible refine HA.out.mono ?_); rintro e w3 ⟨rfl, hB3⟩; have HO3 := Lib.hid (HO2.out.below hB3); have HB3 := Lib.hid (HB2.out.trans (hB3.mono HB2.out.size)); have hld : (Instr.loadAt 24 (.pointer (some ⟨b, i * 32, none⟩))).run Tryz.prog w3 = .ok (.agg (bv y).toArray) w3 := (by (have := (HO3.out.rdv (by omega)).1); rw [← hL'] at this; (have := this.load_y (i := i) (y := y) (by omega) HY.out.symm); rwa [Nat.zero_add] at this); obtain ⟨b', c', w4, hv, _, hst, hO4, hT4⟩ := HO3.out.store (i := n) (by omega) (y := y) hy32; obtain ⟨rfl, rfl⟩ : b = b' ∧ cap1 = c' := (by injection hv with e1 e2 e3; injection e1 with e1; injection e1 with e1; exact ⟨e1, e3⟩); have HO4 := Lib.hid hO4; have HT4 := Lib.hid hT4; clear hO4 hT4 hv hB3 HA)
            | ((with_reducible refine step_load (t := 24) (x := .tmp 33) (p := ?lpld2) (v := ?lvld2) ?lgld2 ?lold2 ?lxld2 ?lrld2 ?lhld2); (case lgld2 => rfl); (case lold2 => rfl); (case lxld2 => rfl); (case lrld2 => exact hld))
            | ((with_reducible refine step_store_at (x := .tmp 35) (y := .tmp 34) (p := ?wpst2) (v := ?wvst2) (w' := ?wwst2) ?wgst2 ?wost2 ?wxst2 ?wyst2 ?wrst2 ?whst2); (case wgst2 => rfl); (case wost2 => rfl); (case wxst2 => rfl); (case wyst2 => rfl); (case wrst2 => exact hst)))
          go_roundg (L.length - (i + 1))
          case measure => omega
          case rel => exact ⟨i + 1, n + 1, _, by go_num, by go_num, by omega, by omega, by omega, by rw [List.length_set]; exact hL', HO4, Lib.hid (by rw [HY.out]; exact HK.out), Lib.hid (HB3.out.trans (HT4.out.below fun k hk => by rw [hk]; exact HO2.out.2.2 b rfl))⟩
        · rw [decide_eq_false hc] at hA
          have HA := Lib.hid hA
          have HK := Lib.hid (HC2.out.skip HW.out (by omega) (by omega) hc)
          clear hA hc
          go_wp2_with (go_at_fn 70; (with_reducible refine HA.out.mono ?_); rintro e w3 ⟨rfl, hB3⟩; have HO3 := Lib.hid (HO2.out.below hB3); have HB3 := Lib.hid (HB2.out.trans (hB3.mono HB2.out.size)); clear hB3 HA)
          go_roundg (L.length - (i + 1))
          case measure => omega
          case rel => exact ⟨i + 1, n, _, rfl, by go_num, by omega, by omega, by omega, hL', HO3, HK, HB3⟩
    · obtain rfl : i = L.length := by omega
      have hltz : ¬ (L.length : Int) < (L.length : Int) := by omega
      have HD := Lib.hid (show L'.take n = setL L by
        have h1 := HC2.out
        rw [← hlen] at h1
        rw [h1.done]
        exact setL_same _ _ fun y => HP.out.mem_iff)
      have n0 : (0 : Int) ≤ (n : Int) := Int.natCast_nonneg _
      have nI : (n : Int) ≤ (L.length : Int) := by omega
      have hcap : L.length ≤ cap1 := by
        rcases HO2.out.2.1.2 with ⟨e, hn⟩ | ⟨g, cap, cur, e, _, _, hle, _⟩
        · rw [hL'] at hn; omega
        · injection e with e1 e2 e3; omega
      cases ad1 with
      | none =>
        have hz : n = 0 ∧ L.length = 0 ∧ cap1 = 0 := by
          rcases HO2.out.2.1.2 with ⟨e, hn⟩ | ⟨g, cap, cur, e, _, _, hle, _⟩
          · injection e with e1 e2 e3; omega
          · injection e with e1 e2 e3; cases e1
        obtain ⟨rfl, hz2, rfl⟩ := hz
        clear nI hltz
        rw [hz2]
        go_wp2_with fail
        go_ret
        have hnil : setL L = [] := by rw [← HD.out, List.take_zero]
        rw [hnil]
        exact ⟨_, rfl, OwnI.nil _ _, HB2.out⟩
      | some a =>
        obtain ⟨b, rfl⟩ : ∃ b, a = ⟨b, 0, none⟩ := by
          rcases HO2.out.2.1.2 with ⟨e, hn⟩ | ⟨g, cap, cur, e, _, _, hle, _⟩
          · injection e with e1 e2 e3; cases e1
          · injection e with e1 e2 e3; injection e1 with e1; exact ⟨g, e1⟩
        have hcapz : (n : Int) ≤ (cap1 : Int) := by omega
        go_wp2_with fail
        go_ret
        have h1 := HO2.out.cut (k := n) (by omega)
        rw [HD.out] at h1
        exact ⟨_, rfl, h1, HB2.out⟩
end Go.Proofs.YtpeneeddfgmjpaaGreatDoor.ids
