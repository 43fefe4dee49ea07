/-
 A row of ids that is being sorted, and lists of ids; list.ahead over it; sort.Slice sorts.
-/
import Derived.Test.YtpeneeddfgmjpaaGreatDoorSrtw
import Derived.Shelf.GgSortFunc.RowK
import Derived.Deep.RegionHeld3
namespace Go.Proofs.YtpeneeddfgmjpaaGreatDoor.srt
open Go.Proofs Go.RowKit Go.Proofs.YtpeneeddfgmjpaaGreatDoor.mem Go.Proofs.YtpeneeddfgmjpaaGreatDoor.sha Go.Proofs.YtpeneeddfgmjpaaGreatDoor.ids Go.Sort

def lst (d : Array I32) : List (List UInt8) := d.toList.map (·.1)
theorem lst_len (d : Array I32) : (lst d).length = d.size := by unfold lst; rw [List.length_map, Array.length_toList]
theorem lst_ok (d : Array I32) : okIds (lst d) := fun x hx => by
 unfold lst at hx
 obtain ⟨y, _, rfl⟩ := List.mem_map.1 hx
 exact y.2
theorem lst_get (d : Array I32) {i : Nat} (hi : i < d.size) : (lst d).getD i [] = (d[i]!).1 := by
 unfold lst
 rw [List.getD_eq_getElem?_getD, List.getElem?_map, Array.getElem?_toList, Array.getElem?_eq_getElem hi, getElem!_pos d i hi]
 rfl
theorem lst_of : ∀ L : List (List UInt8), okIds L → ∃ d : Array I32, lst d = L
 | [], _ => ⟨#[], rfl⟩
 | x :: L, h => by
  obtain ⟨d, hd⟩ := lst_of L fun y hy => h y (List.mem_cons_of_mem _ hy)
  refine ⟨⟨⟨x, h x List.mem_cons_self⟩ :: d.toList⟩, ?_⟩
  unfold lst at hd ⊢
  rw [List.map_cons, hd]
theorem flat_eq (d : Array I32) : flatK enc 32 d = (fl (lst d)).toArray := by
 have hs : (flatK enc 32 d).size = d.size * 32 := by unfold flatK; rw [Array.size_map, Array.size_range]
 apply Array.ext'
 rw [List.toList_toArray]
 apply List.ext_getElem?
 intro k
 by_cases hk : k < d.size * 32
 ·
  have e1 := fl_get (L := lst d) (lst_ok d) (i := k / 32) (j := k % 32) (by rw [lst_len]; omega) (by omega)
  rw [show k / 32 * 32 + k % 32 = k by omega, lst_get d (by omega)] at e1
  rw [e1, Array.getElem?_toList, Array.getElem?_eq_getElem (by rw [hs]; exact hk)]
  unfold flatK
  rw [Array.getElem_map, Array.getElem_range]
  have e2 := bv_get (d[k / 32]!).1 (k % 32) (by rw [(d[k / 32]!).2]; omega)
  unfold enc
  rw [List.getElem!_eq_getElem?_getD, e2]
  rfl
 ·
  rw [List.getElem?_eq_none (by rw [Array.length_toList, hs]; omega), List.getElem?_eq_none (by rw [fl_len (lst_ok d), lst_len]; omega)]

section
variable {blk off n : Nat} {d : Array I32} {w : World}
theorem St.cells (h : St blk off n d w) : ∀ k v, (fl (lst d))[k]? = some v → w.cell? ⟨blk, off + k, none⟩ = some v := fun k v hv => by
 have hk : k < (flatK enc 32 d).size := by
  rw [flat_eq, List.size_toArray]
  exact (List.getElem?_eq_some_iff.1 hv).1
 rw [(h.holds k hk).1]
 have e : (flatK enc 32 d)[k]? = some v := by rw [flat_eq, List.getElem?_toArray, hv]
 rw [Array.getElem?_eq_getElem hk] at e
 injection e with e
 rw [getElem!_pos _ k hk, e]
 rfl
theorem St.of {t : TypeId} {cur : Array Value} (hb : w.heap[blk]? = some (.cells cur t (0, 0))) (hd : d.size = n) (hc : ∀ k v, (fl (lst d))[k]? = some v → cur[off + k]? = some v) : St blk off n d w := by
 refine ⟨hd, fun j hj => ?_, (Array.getElem?_eq_some_iff.1 hb).1⟩
 have hx : (fl (lst d))[j]? = some (flatK enc 32 d)[j]! := by
  rw [getElem!_pos _ j hj, ← Array.getElem?_eq_getElem hj, flat_eq, List.getElem?_toArray]
 have hB : Blk w blk t cur := hb
 exact ⟨(hB.cell (off + j)).trans (hc j _ hx), hB.frozen (off + j)⟩
theorem St.load (h : St blk off n d w) {i : Nat} (hi : i < n) : (Instr.loadAt 24 (.pointer (some ⟨blk, off + i * 32, none⟩))).run Tryz.prog w = .ok (.agg (bv (d[i]!).1).toArray) w := by
 have := run_load_id (w := w) (lst_ok d) h.cells (i := i) (by rw [lst_len, h.size]; exact hi)
 rw [lst_get d (by rw [h.size]; exact hi)] at this
 exact this
theorem St.rdv (h : St blk off n d w) {cap : Nat} (h1 : n ≤ cap) (h2 : cap ≤ maxLen) (h3 : n ≤ 4398046511104) : RdV w (.slice (some ⟨blk, off, none⟩) n cap) (lst d) := by
 have e : (lst d).length = n := (lst_len d).trans h.size
 refine ⟨lst_ok d, by omega, some ⟨blk, off, none⟩, cap, by rw [e], by omega, h2, (fun h => by cases h), fun a ha _ => ⟨blk, off, by injection ha with ha; exact ha.symm⟩, .inr ⟨blk, off, rfl, h.lt, h.cells⟩⟩
end

structure AhS (blk off n : Nat) (d : Array I32) (w0 w : World) : Prop where
 st : St blk off n d w
 below : RowKit.Below w0.heap.size w0 w
theorem AhS.next {blk off n : Nat} {d : Array I32} {w0 w w' : World} (h : AhS blk off n d w0 w) (hb : RowKit.Below w.heap.size w w') : AhS blk off n d w0 w' := ⟨h.st.below hb, h.below.trans (hb.mono h.below.size)⟩
theorem lt_int (x y : I32) {c : Int} (hc : cmpL x.1 y.1 = c) : decide (c < 0) = lt x y := by subst hc; rfl

set_option maxHeartbeats 2000000 in
set_option maxRecDepth 100000 in
theorem ahead_any (blk off n cap : Nat) (d : Array I32) (w : World) (i j : Nat) (hs : St blk off n d w) (hi : i < n) (hj : j < n) :
  Calls Tryz.prog 70 #[.slice (some ⟨blk, off, none⟩) n cap, .int .i64 i, .int .i64 j] w fun e w' => e = .returned (.bool (lt d[i]! d[j]!)) ∧ RowKit.Below w.heap.size w w' := by
 have HS := Lib.hid (show AhS blk off n d w w from ⟨hs, RowKit.Below.refl _ _⟩)
 obtain ⟨x, hx⟩ : ∃ x, x = (d[i]!) := ⟨_, rfl⟩
 obtain ⟨y, hy⟩ : ∃ y, y = (d[j]!) := ⟨_, rfl⟩
 have HX := Lib.hid (fun (w : World) (h : St blk off n d w) => h.load hi)
 have HY := Lib.hid (fun (w : World) (h : St blk off n d w) => h.load hj)
 rw [← hx] at HX
 rw [← hy] at HY
 obtain ⟨c, hc⟩ : ∃ c, cmpL x.1 y.1 = c := ⟨_, rfl⟩
 have HL := Lib.hid (lt_int x y hc)
 rw [← hx, ← hy]
 have i0 : (0 : Int) ≤ (i : Int) := Int.natCast_nonneg _
 have j0 : (0 : Int) ≤ (j : Int) := Int.natCast_nonneg _
 have iI : (i : Int) < (n : Int) := by omega
 have jI : (j : Int) < (n : Int) := by omega
 have HC := Lib.hid (fun w : World => compare_any x.1 y.1 w x.2 y.2)
 rw [hc] at HC
 clear hs hx hy hc
 go_enter Tryz.func70, Tryz.ntmps70
 go_upto_region 1 with fail
 refine wp_region_held_drew (S := AhS blk off n d w) (by kernel_rfl) ?_ (fun hHeld => ?_)
 ·
  exact HS.out.next ((RowKit.Below.refl _ _).drew)
 refine' wpAnyH_take (i := 0) ?hiah0 (by kernel_rfl) (by kernel_rfl) (by kernel_rfl) ?hqah0 (Or.inl ⟨?hwah0, ?hyah0⟩) (by assumption) ?hrah0
 case hiah0 => (simp only [List.getElem?_toArray, List.getElem?_cons_zero]; rfl)
 case hqah0 => exact fun _ _ _ h => h
 case hwah0 => rfl
 case hyah0 => (intro w0 hSw; (try dsimp only at hSw); go_simp; try with_reducible rfl)
 (try simp only [Act.put, List.setIfInBounds_toArray, List.set_cons_zero, List.set_cons_succ])
 refine' wpAnyH_take (i := 1) ?hiah1 (by kernel_rfl) (by kernel_rfl) (by kernel_rfl) ?hqah1 (Or.inl ⟨?hwah1, ?hyah1⟩) (by assumption) ?hrah1
 case hiah1 => (simp only [List.getElem?_toArray, List.getElem?_cons_succ, List.getElem?_cons_zero]; rfl)
 case hqah1 => exact fun _ _ _ h => h
 case hwah1 => rfl
 case hyah1 => (intro w0 hSw; (try dsimp only at hSw); go_simp; try with_reducible rfl)
 (try simp only [Act.put, List.setIfInBounds_toArray, List.set_cons_zero, List.set_cons_succ])
 refine' wpAnyH_take (i := 2) ?hiah2 (by kernel_rfl) (by kernel_rfl) (by kernel_rfl) ?hqah2 (Or.inl ⟨?hwah2, ?hyah2⟩) (by assumption) ?hrah2
 case hiah2 => (simp only [List.getElem?_toArray, List.getElem?_cons_succ, List.getElem?_cons_zero]; rfl)
 case hqah2 => exact fun _ _ _ h => h
 case hwah2 => rfl
 case hyah2 => (intro w0 hSw; (try dsimp only at hSw); go_simp; try with_reducible rfl)
 (try simp only [Act.put, List.setIfInBounds_toArray, List.set_cons_zero, List.set_cons_succ])
 refine' wpAnyH_take (i := 3) ?hiah3 (by kernel_rfl) (by kernel_rfl) (by kernel_rfl) ?hqah3 (Or.inl ⟨?hwah3, ?hyah3⟩) (by assumption) ?hrah3
 case hiah3 => (simp only [List.getElem?_toArray, List.getElem?_cons_succ, List.getElem?_cons_zero]; rfl)
 case hqah3 => exact fun _ _ _ h => h
 case hwah3 => rfl
 case hyah3 => exact fun w0 hSw => run_exec_load rfl rfl (HX.out _ hSw.st)
 (try simp only [Act.put, List.setIfInBounds_toArray, List.set_cons_zero, List.set_cons_succ])
 refine' wpAnyH_take (i := 4) ?hiah4 (by kernel_rfl) (by kernel_rfl) (by kernel_rfl) ?hqah4 (Or.inl ⟨?hwah4, ?hyah4⟩) (by assumption) ?hrah4
 case hiah4 => (simp only [List.getElem?_toArray, List.getElem?_cons_succ, List.getElem?_cons_zero]; rfl)
 case hqah4 => exact fun _ _ _ h => h
 case hwah4 => rfl
 case hyah4 => (intro w0 hSw; (try dsimp only at hSw); go_simp; try with_reducible rfl)
 (try simp only [Act.put, List.setIfInBounds_toArray, List.set_cons_zero, List.set_cons_succ])
 refine' wpAnyH_take (i := 5) ?hiah5 (by kernel_rfl) (by kernel_rfl) (by kernel_rfl) ?hqah5 (Or.inl ⟨?hwah5, ?hyah5⟩) (by assumption) ?hrah5
 case hiah5 => (simp only [List.getElem?_toArray, List.getElem?_cons_succ, List.getElem?_cons_zero]; rfl)
 case hqah5 => exact fun _ _ _ h => h
 case hwah5 => rfl
 case hyah5 => (intro w0 hSw; (try dsimp only at hSw); go_simp; try with_reducible rfl)
 (try simp only [Act.put, List.setIfInBounds_toArray, List.set_cons_zero, List.set_cons_succ])
 refine' wpAnyH_take (i := 6) ?hiah6 (by kernel_rfl) (by kernel_rfl) (by kernel_rfl) ?hqah6 (Or.inl ⟨?hwah6, ?hyah6⟩) (by assumption) ?hrah6
 case hiah6 => (simp only [List.getElem?_toArray, List.getElem?_cons_succ, List.getElem?_cons_zero]; rfl)
 case hqah6 => exact fun _ _ _ h => h
 case hwah6 => rfl
 case hyah6 => (intro w0 hSw; (try dsimp only at hSw); go_simp; try with_reducible rfl)
 (try simp only [Act.put, List.setIfInBounds_toArray, List.set_cons_zero, List.set_cons_succ])
 refine' wpAnyH_take (i := 7) ?hiah7 (by kernel_rfl) (by kernel_rfl) (by kernel_rfl) ?hqah7 (Or.inl ⟨?hwah7, ?hyah7⟩) (by assumption) ?hrah7
 case hiah7 => (simp only [List.getElem?_toArray, List.getElem?_cons_succ, List.getElem?_cons_zero]; rfl)
 case hqah7 => exact fun _ _ _ h => h
 case hwah7 => rfl
 case hyah7 => exact fun w0 hSw => run_exec_load rfl rfl (HY.out _ hSw.st)
 (try simp only [Act.put, List.setIfInBounds_toArray, List.set_cons_zero, List.set_cons_succ])
 refine wpAnyH_ready (rs := [8]) (by kernel_rfl) (by simp) ?_
 refine' AllReadyH.cons ?hiah8 (fun K hK => ?hrah8) AllReadyH.nil
 case hiah8 => (simp only [List.getElem?_toArray, List.getElem?_cons_succ, List.getElem?_cons_zero]; rfl)
 go_simp
 refine (HC.out _).mono ?_; rintro e wA ⟨rfl, hbA⟩
 refine hK.out _ _ ?_ (fun hHeld => ?_)
 ·
  exact hHeld.next hbA
 clear hK K
 (try simp only [Act.put, List.setIfInBounds_toArray, List.set_cons_zero, List.set_cons_succ])
 refine' wpAnyH_take (i := 9) ?hiah9 (by kernel_rfl) (by kernel_rfl) (by kernel_rfl) ?hqah9 (Or.inl ⟨?hwah9, ?hyah9⟩) (by assumption) ?hrah9
 case hiah9 => (simp only [List.getElem?_toArray, List.getElem?_cons_succ, List.getElem?_cons_zero]; rfl)
 case hqah9 => exact fun _ _ _ h => h
 case hwah9 => rfl
 case hyah9 => (intro w0 hSw; (try dsimp only at hSw); go_simp; try with_reducible rfl)
 (try simp only [Act.put, List.setIfInBounds_toArray, List.set_cons_zero, List.set_cons_succ])
 refine' wpAnyH_take (i := 10) ?hiah10 (by kernel_rfl) (by kernel_rfl) (by kernel_rfl) ?hqah10 (Or.inl ⟨?hwah10, ?hyah10⟩) (by assumption) ?hrah10
 case hiah10 => (simp only [List.getElem?_toArray, List.getElem?_cons_succ, List.getElem?_cons_zero]; rfl)
 case hqah10 => exact fun _ _ _ h => h
 case hwah10 => rfl
 case hyah10 => (intro w0 hSw; (try dsimp only at hSw); go_simp; try with_reducible rfl)
 (try simp only [Act.put, List.setIfInBounds_toArray, List.set_cons_zero, List.set_cons_succ])
 refine wpAnyH_done (by kernel_rfl) ?_ _
 go_wp2_with fail
 go_ret
 rw [HL.out]
 exact ⟨rfl, hHeld.below⟩

/-- less and swap of the row, as the sort is handed them -/
theorem env_any (blk off n cap : Nat) : Env (.slice (some ⟨blk, off, none⟩) n cap) (typeHandle Tryz.prog 24) blk off n :=
 ⟨fun d w i j hs hi hj => ahead_any blk off n cap d w i j hs hi hj, fun d w i j hs hi hj => swap_holds blk off n cap d w i j hs hi hj⟩

/-- sort.Slice over a row of ids: it sorts -/
theorem slice_any (blk off n cap : Nat) (d : Array I32) (w : World) (hs : St blk off n d w) (h2 : 2 ≤ n) (hn : n ≤ 1000000000) :
  Calls Tryz.prog 71 #[.iface 100 (.slice (some ⟨blk, off, none⟩) n cap), .func (.func 70) #[.slice (some ⟨blk, off, none⟩) n cap] #[]] w fun e w' => e = .returned (.tuple #[]) ∧ ∃ d', PermIn 0 n d d' ∧ SortedIn lt 0 n d' ∧ St blk off n d' w' ∧ Tr blk w w' := by
 have hb := slW_below (some ⟨blk, off, none⟩) n cap w
 refine slice_of_pdq (some ⟨blk, off, none⟩) n cap (by omega) 122 (by rw [litK n h2]; kernel_rfl) _ _ _ w _ ?_
 unfold sliceBound
 rw [litK n h2]
 have hl : Lib.bitLen n ≤ 62 := Lib.bitLen_le n 62 (by omega) (by omega)
 have h := pdq_any (env_any blk off n cap) hn (n + 1) 0 n (Lib.bitLen n) d (slW (some ⟨blk, off, none⟩) n cap w) (by omega) (hs.below hb) (Nat.zero_le _) (Nat.le_refl _) (by omega) (.inl rfl)
 refine Calls.mono h ?_
 rintro e w' ⟨he, d', hp, hq, hst, ht⟩
 exact ⟨he, d', hp, hq, hst, (Tr.below hb).trans ht⟩
/-- .. of none or one -/
theorem slice_tiny (p : Option Addr) (n cap : Nat) (w : World) (h1 : n ≤ 1) (lf : Fn) (la lb : Array Value) :
  Calls Tryz.prog 71 #[.iface 100 (.slice p n cap), .func lf la lb] w fun e w' => e = .returned (.tuple #[]) ∧ RowKit.Below w.heap.size w w' := by
 have hb := slW_below p n cap w
 have hf : ∃ f, Tryz.prog.funcs.findIdx? (·.name == "internal/reflectlite" ++ ".Swapper$" ++ toString (Lib.swapperK n tiE 17)) = some f := by
  rcases Nat.lt_or_ge 0 n with h | h
  ·
   obtain rfl : n = 1 := by omega
   exact ⟨115, by kernel_rfl⟩
  ·
   obtain rfl : n = 0 := by omega
   exact ⟨114, by kernel_rfl⟩
 obtain ⟨f, hf⟩ := hf
 refine slice_of_pdq p n cap (by omega) f hf lf la lb w _ ?_
 have h := Any.pdqsort_func_tiny (P := Tryz.prog) (ρ := ren) { lays with } lf la lb f (sliceBound Tryz.prog 24 tiE 17 p n cap) n h1 (Lib.bitLen n) (slW p n cap w)
 refine Calls.mono h ?_
 rintro e w' ⟨rfl, rfl⟩
 exact ⟨rfl, (hb.alloc (by have := hb.size; omega) _).alloc (by have := hb.size; simp; omega) _⟩
end Go.Proofs.YtpeneeddfgmjpaaGreatDoor.srt
