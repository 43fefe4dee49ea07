/-
  What the listed table of letters gives the walks of topic; and that the program's own start lays it.
  bytes.Compare over two arrays, ident.Compare.
  Sets of ids as sorted lists.
-/
import Derived.Test.YtmaolmogccknbaaDoorStepl
import Derived.Test.YtmaolmogccknbaaDoorOpenid
import Derived.Test.YtmaolmogccknbaaDoorTopj
import Derived.LaidMore
import Derived.Stop.Joined
import Derived.Test.YtmaolmogccknbaaDoorTop
import Derived.Test.YtmaolmogccknbaaDoorStrx
import Derived.Lib.BytesEntry
import Derived.Lib.Bytealg
import Derived.Laws.Externs
import Derived.BigQuiet
import Derived.Deep.Cut
namespace Go.Proofs.YtmaolmogccknbaaDoor.kit
open Go.ChangeShapes Go.WideShapes Go.ChangeAt Go.RowKit Go.Proofs.YtmaolmogccknbaaDoor.sha Go.Proofs.YtmaolmogccknbaaDoor.strx

/-- what the places of an array of texts hold -/
theorem strs_of_trod {H : Type} {enc : TypeId × Value → H} {w : World} {base : Nat} {sp : Nat → Bool} {held : Bool} {fuel n : Nat} {t : TypeId} {p : List MemPlace} (L : List (List UInt8)) (ht : Tryd.prog.underlying t = some (.array n 9)) (cs : List Value)
    (h : DataW.trod enc Tryd.prog w base sp held fuel t cs = some (.agg (L.map fun x => DataW.lit (.string x)), p)) (j : Nat) (hj : j < n) (hL : L.length = n) : cs[j]? = some (.string (bt (L.getD j []))) := by
  obtain ⟨xs, m1, rfl, hx1, hlen, hn, hel⟩ := DataW.trod_array ht h
  have c1 : Tryd.prog.cellsOf 9 = 1 := by kernel_rfl
  simp only [Prod.mk.injEq, DataW.agg.injEq] at hx1
  have hj2 := hel j hj
  rw [c1, Nat.mul_one] at hj2
  have hxj : xs[j]? = some (xs[j]'(by omega)) := List.getElem?_eq_getElem (by omega)
  rw [hxj] at hj2
  obtain ⟨k, e1, e2, _⟩ := DataW.trod_string Tryd.underlying9 hj2
  have hk : (xs.map (·.1))[j]? = some (.lit (.string k.data.toList)) := by rw [List.getElem?_map, hxj]; simp [e2]
  have hLj : L[j]? = some (L[j]'(by rw [hL]; exact hj)) := List.getElem?_eq_getElem (by rw [hL]; exact hj)
  rw [← hx1.1, List.getElem?_map, hLj] at hk
  have hkU : (L[j]'(by rw [hL]; exact hj)) = k.data.toList := by simpa using hk
  rw [List.getD_eq_getElem?_getD, hLj, Option.getD_some, hkU]
  have := congrArg (fun l : List Value => l[0]?) e1
  simpa [List.getElem?_take, List.getElem?_drop, bt_of] using this

def listedT : List (String × DataW Unit) := [("petrel/topic.letters", Rows.laid_petrel_topic_letters)]
theorem gLetters : Tryd.prog.globalNamed "petrel/topic.letters" = some 4 := by kernel_rfl
theorem tLetters : (Tryd.prog.globals[4]?).map (·.type) = some 139 := by kernel_rfl
theorem door_metT (os : Os) (args : Array Value) : laidMetH Tryd.prog listedT ((World.doorLaid Tryd.prog 400 os).forCall (fun _ _ => 0) ⟨#[], args, []⟩).memory :=
  laidMetH_of_parts3 (fuel := 8) (laidMet_of_run' 8 (by kernel_rfl) (by kernel_rfl)) (by kernel_rfl) (by kernel_rfl)
theorem letters_of_laid {W : World} (h : laidMetH Tryd.prog listedT W) : topic.Tab W := by
  rw [MakeChecks.laidMetH_plain _ _ _ (by kernel_rfl)] at h
  obtain ⟨ps, ⟨g0, t0, cs0, f0, p0, q0, hg0, ht0, hv0, hd0, _, _⟩, _, _⟩ := h
  obtain rfl := Option.some.inj (gLetters.symm.trans hg0)
  obtain rfl := Option.some.inj (tLetters.symm.trans ht0)
  have k0 := strs_of_trod topic.letL Tryd.underlying139 _ hd0
  have c0 : ∀ j, j < 6 → W.cell? ⟨4, j, none⟩ = some (.string (bt (topic.letL.getD j []))) := fun j hj => by
    rw [World.var?_cell hg0 hv0 j, ← k0 j hj rfl]
    simp
  exact ⟨block_lt_of_cell (c0 0 (by decide)), c0⟩
end Go.Proofs.YtmaolmogccknbaaDoor.kit

namespace Go.Proofs.YtmaolmogccknbaaDoor.ids
open Go.RowKit Go.Proofs.YtmaolmogccknbaaDoor.mem Go.Proofs.YtmaolmogccknbaaDoor.sha Go.Proofs.YtmaolmogccknbaaDoor.strx

/-- the entry's own words, over lists -/
def cmpF (x y : List UInt8) : Int :=
  match (List.range x.length).find? (fun i => x.getD i 0 != y.getD i 0) with
  | some i => if x.getD i 0 < y.getD i 0 then -1 else 1
  | none => 0
theorem cmpF_eq : ∀ x y : List UInt8, x.length = y.length → cmpF x y = cmpL x y
  | [], [], _ => rfl
  | [], _ :: _, h => by cases h
  | _ :: _, [], h => by cases h
  | a :: x, b :: y, h => by
    have hl : x.length = y.length := by simpa using h
    have ih := cmpF_eq x y hl
    unfold cmpF at ih ⊢
    rw [List.length_cons, List.range_succ_eq_map, List.find?_cons, cmpL]
    by_cases hab : a = b
    · subst hab
      rw [if_neg (Nat.lt_irrefl _), if_neg (Nat.lt_irrefl _), ← ih, show ((a :: x).getD 0 0 != (a :: y).getD 0 0) = false by simp]
      simp only [List.find?_map]
      have e : ((fun i => (a :: x).getD i 0 != (a :: y).getD i 0) ∘ Nat.succ) = (fun i => x.getD i 0 != y.getD i 0) := by
        funext i
        simp only [Function.comp, Nat.succ_eq_add_one, List.getD_cons_succ]
      rw [e]
      cases (List.range x.length).find? (fun i => x.getD i 0 != y.getD i 0) with
      | none => rfl
      | some i => simp only [Option.map_some, Nat.succ_eq_add_one, List.getD_cons_succ]
    · have hne : (a != b) = true := by simpa using hab
      rw [show ((a :: x).getD 0 0 != (b :: y).getD 0 0) = true from hne]
      have hn : ¬ a.toNat = b.toNat := fun e => hab (UInt8.toNat_inj.1 e)
      by_cases hlt : a.toNat < b.toNat
      · rw [if_pos hlt]
        have : a < b := UInt8.lt_iff_toNat_lt.2 hlt
        simp [this]
      · rw [if_neg hlt, if_pos (show b.toNat < a.toNat by omega)]
        have : ¬ a < b := fun h => hlt (UInt8.lt_iff_toNat_lt.1 h)
        simp [this]
theorem bt_get (x : List UInt8) (i : Nat) : (bt x)[i]! = x.getD i 0 := by
  by_cases h : i < x.length
  · have h2 : i < (bt x).size := by rw [bt_size]; exact h
    rw [getElem!_pos (bt x) i h2, List.getD_eq_getElem?_getD, List.getElem?_eq_getElem h]
    rfl
  · have h2 : ¬ i < (bt x).size := by rw [bt_size]; exact h
    rw [getElem!_neg (bt x) i h2, List.getD_eq_getElem?_getD, List.getElem?_eq_none (by omega)]
    rfl
theorem cmp_eq (x y : List UInt8) (h : x.length = y.length) : Extern.BytealgCompare.cmp (bt x) (bt y) = cmpL x y := by
  rw [← cmpF_eq x y h]
  unfold Extern.BytealgCompare.cmp cmpF
  rw [bt_size, bt_size, ← h, Nat.min_self]
  have e : (fun i => (bt x)[i]! != (bt y)[i]!) = (fun i => x.getD i 0 != y.getD i 0) := by funext i; rw [bt_get, bt_get]
  rw [e]
  cases (List.range x.length).find? (fun i => x.getD i 0 != y.getD i 0) with
  | none => simp
  | some i => simp only [bt_get]
theorem run_bytesOf {P : Program} (w : World) (b : Nat) (x : List UInt8) (c : Nat) (hc : ∀ j v, (bv x)[j]? = some v → w.cell? ⟨b, j, none⟩ = some v) :
    (Extern.Bytes.bytesOf (.slice (some ⟨b, 0, none⟩) x.length c)).run P w = .ok (bt x) w := by
  have h := Lib.run_loadBytesX (P := P) w (x.map fun y => (y.toNat : Int)) ⟨b, 0, none⟩ .empty (fun j z hz => by
    rw [Addr.add_lit, Nat.zero_add]
    refine hc j _ ?_
    unfold bv
    rw [List.getElem?_map] at hz ⊢
    cases hx : x[j]? with
    | none => rw [hx] at hz; cases hz
    | some u => rw [hx] at hz; injection hz with hz; subst hz; rfl)
  rw [List.length_map] at h
  show (Extern.Bytes.loadBytes ⟨b, 0, none⟩ x.length .empty).run P w = _
  rw [h]
  congr 1
  unfold bt
  congr 1
  apply Array.ext'
  simp [Lib.bytesOf, List.map_map, Function.comp_def]
theorem run_cmp (w : World) (b g : Nat) (x y : List UInt8) (c e : Nat) (hl : x.length = y.length) (hx : ∀ j v, (bv x)[j]? = some v → w.cell? ⟨b, j, none⟩ = some v) (hy : ∀ j v, (bv y)[j]? = some v → w.cell? ⟨g, j, none⟩ = some v) :
    (callFunc 113 #[.slice (some ⟨b, 0, none⟩) x.length c, .slice (some ⟨g, 0, none⟩) y.length e]).run Tryd.prog w = .ok (.value (.int .i64 (cmpL x y))) w := by
  rw [run_callFunc_extern Tryd.func113 (by kernel_rfl) (by kernel_rfl) (by kernel_rfl) (e := Extern.BytealgCompare.compare) (by kernel_rfl)]
  show ((do pure (goInt (Extern.BytealgCompare.cmp (← Extern.Bytes.bytesOf (.slice (some ⟨b, 0, none⟩) x.length c)) (← Extern.Bytes.bytesOf (.slice (some ⟨g, 0, none⟩) y.length e)))) : Sem Value).run Tryd.prog w).andThen _ = _
  rw [Sem.run_bind, run_bytesOf w b x c hx]
  simp only [Result.andThen]
  rw [Sem.run_bind, run_bytesOf w g y e hy]
  simp only [Result.andThen, Sem.run_pure, cmp_eq x y hl]
  rfl
set_option maxHeartbeats 2000000 in
set_option maxRecDepth 100000 in
theorem bcmp_any (w : World) (b g : Nat) (x y : List UInt8) (hx32 : x.length = 32) (hy32 : y.length = 32) (hx : ∀ j v, (bv x)[j]? = some v → w.cell? ⟨b, j, none⟩ = some v) (hy : ∀ j v, (bv y)[j]? = some v → w.cell? ⟨g, j, none⟩ = some v) :
    Calls Tryd.prog 106 #[.slice (some ⟨b, 0, none⟩) 32 32, .slice (some ⟨g, 0, none⟩) 32 32] w fun e w' => e = .returned (.int .i64 (cmpL x y)) ∧ w' = w := by
  have hc := run_cmp w b g x y 32 32 (hx32.trans hy32.symm) hx hy
  rw [hx32, hy32] at hc
  clear hx hy
  go_enter Tryd.func106, Tryd.ntmps106
  go_wp2_with fail
  go_ret
  exact ⟨rfl, rfl⟩
set_option maxHeartbeats 2000000 in
set_option maxRecDepth 100000 in
theorem compare_any (x y : Id) (w : World) (hx : x.length = 32) (hy : y.length = 32) :
    Calls Tryd.prog 74 #[.agg (bv x).toArray, .agg (bv y).toArray] w fun e w' => e = .returned (.int .i64 (cmpL x y)) ∧ Below w.heap.size w w' := by
  obtain ⟨w1, hw1⟩ : ∃ u, u = (w.alloc (.cells (bv x).toArray 23)).alloc (.cells (bv y).toArray 23) := ⟨_, rfl⟩
  have hb : Below w.heap.size w w1 := by rw [hw1]; exact ((Below.refl _ w).alloc (Nat.le_refl _) _).alloc (by simp) _
  have hcx : ∀ j v, (bv x)[j]? = some v → w1.cell? ⟨w.heap.size, j, none⟩ = some v := fun j v hv => by
    rw [hw1, ((Blk.new w 23 (bv x).toArray).alloc _).cell j]
    simpa using hv
  have hcy : ∀ j v, (bv y)[j]? = some v → w1.cell? ⟨w.heap.size + 1, j, none⟩ = some v := fun j v hv => by
    rw [hw1, (Blk.at_ (w := w.alloc (.cells (bv x).toArray 23)) (by simp) 23 (bv y).toArray).cell j]
    simpa using hv
  have HC := Lib.hid (fun n : Nat => bcmp_any (w1.drewN n) w.heap.size (w.heap.size + 1) x y hx hy hcx hcy)
  have HW1 := Lib.hid hw1
  have HB := Lib.hid hb
  clear hw1 hb hcx hcy
  go_enter Tryd.func74, Tryd.ntmps74
  go_upto_region 1 with fail
  refine wp_at HW1.out.symm ?_
  clear HW1
  go_quiet ((go_at_call 106; exact quiet_left ((HC.out _).mono fun _ _ ⟨he, hw⟩ => ⟨he, hw.symm⟩)))
  go_wp2_with fail
  go_ret
  exact ⟨rfl, below_drewN HB.out _⟩
end Go.Proofs.YtmaolmogccknbaaDoor.ids

namespace Go.Proofs.YtmaolmogccknbaaDoor.ids
open Go.RowKit Go.Proofs.YtmaolmogccknbaaDoor.mem Go.Proofs.YtmaolmogccknbaaDoor.sha

def Sorted (L : List Id) : Prop := L.Pairwise fun a b => cmpL a b < 0
theorem lt_irrefl (a : Id) : ¬ cmpL a a < 0 := by rw [cmpL_self]; decide
theorem while_lt (x : Id) : ∀ L : List Id, ∀ y ∈ L.takeWhile (fun y => decide (cmpL y x < 0)), cmpL y x < 0
  | [], y, h => by cases h
  | a :: L, y, h => by
    rw [List.takeWhile_cons] at h
    split at h
    · rename_i ha
      rcases List.mem_cons.1 h with rfl | h
      · exact of_decide_eq_true ha
      · exact while_lt x L y h
    · cases h
theorem mem_withL (L : List Id) (x y : Id) : y ∈ withL L x ↔ y = x ∨ y ∈ L := by
  unfold withL
  split
  · rename_i h
    rw [List.contains_iff_mem] at h
    constructor
    · exact Or.inr
    · rintro (rfl | h2)
      · exact h
      · exact h2
  · have e : y ∈ L ↔ y ∈ L.takeWhile (fun y => decide (cmpL y x < 0)) ∨ y ∈ L.dropWhile (fun y => decide (cmpL y x < 0)) := by
      rw [← List.mem_append, List.takeWhile_append_dropWhile]
    rw [List.mem_append, List.mem_cons, e]
    constructor
    · rintro (h | h | h)
      · exact .inr (.inl h)
      · exact .inl h
      · exact .inr (.inr h)
    · rintro (h | h | h)
      · exact .inr (.inl h)
      · exact .inl h
      · exact .inr (.inr h)
theorem drop_gt (x : Id) : ∀ L : List Id, Sorted L → x ∉ L → ∀ y ∈ L.dropWhile (fun y => decide (cmpL y x < 0)), cmpL x y < 0
  | [], _, _, y, h => by cases h
  | a :: L, hs, hn, y, h => by
    rw [List.dropWhile_cons] at h
    obtain ⟨ha, hs⟩ := List.pairwise_cons.1 hs
    split at h
    · exact drop_gt x L hs (fun h => hn (List.mem_cons_of_mem _ h)) y h
    · rename_i hax
      have hax' : ¬ cmpL a x < 0 := by simpa using hax
      have h1 : cmpL x a < 0 := by
        have hne : cmpL a x ≠ 0 := fun e => hn (by rw [cmpL_zero _ _ e]; exact List.mem_cons_self)
        have := cmpL_neg a x
        have := cmpL_range a x
        omega
      rcases List.mem_cons.1 h with rfl | h
      · exact h1
      · exact cmpL_trans x a y h1 (ha y h)
theorem withL_sorted (L : List Id) (x : Id) (h : Sorted L) : Sorted (withL L x) := by
  unfold withL
  split
  · exact h
  · rename_i hc
    have hn : x ∉ L := fun hm => hc (by rw [List.contains_iff_mem]; exact hm)
    have h' : Sorted (L.takeWhile (fun y => decide (cmpL y x < 0)) ++ L.dropWhile (fun y => decide (cmpL y x < 0))) := by rw [List.takeWhile_append_dropWhile]; exact h
    obtain ⟨h1, h2, h3⟩ := List.pairwise_append.1 h'
    refine List.pairwise_append.2 ⟨h1, List.pairwise_cons.2 ⟨fun y hy => drop_gt x L h hn y hy, h2⟩, fun a ha b hb => ?_⟩
    rcases List.mem_cons.1 hb with rfl | hb
    · exact while_lt _ L a ha
    · exact h3 a ha b hb
theorem fold_sorted : ∀ (M L : List Id), Sorted L → Sorted (M.foldl withL L)
  | [], _, h => h
  | x :: M, L, h => fold_sorted M _ (withL_sorted L x h)
theorem mem_fold (y : Id) : ∀ (M L : List Id), y ∈ M.foldl withL L ↔ y ∈ L ∨ y ∈ M
  | [], L => by simp
  | x :: M, L => by
    rw [List.foldl_cons, mem_fold y M, mem_withL, List.mem_cons]
    constructor
    · rintro ((h | h) | h)
      · exact .inr (.inl h)
      · exact .inl h
      · exact .inr (.inr h)
    · rintro (h | h | h)
      · exact .inl (.inr h)
      · exact .inl (.inl h)
      · exact .inr h
theorem setL_sorted (L : List Id) : Sorted (setL L) := fold_sorted L [] List.Pairwise.nil
theorem mem_setL (L : List Id) (y : Id) : y ∈ setL L ↔ y ∈ L := by
  unfold setL
  rw [mem_fold]
  simp
theorem sorted_ext : ∀ (L M : List Id), Sorted L → Sorted M → (∀ y, y ∈ L ↔ y ∈ M) → L = M
  | [], [], _, _, _ => rfl
  | [], b :: M, _, _, h => absurd ((h b).2 List.mem_cons_self) (by simp)
  | a :: L, [], _, _, h => absurd ((h a).1 List.mem_cons_self) (by simp)
  | a :: L, b :: M, hL, hM, h => by
    obtain ⟨ha, hL'⟩ := List.pairwise_cons.1 hL
    obtain ⟨hb, hM'⟩ := List.pairwise_cons.1 hM
    have hab : a = b := by
      rcases List.mem_cons.1 ((h a).1 List.mem_cons_self) with h1 | h1
      · exact h1
      · rcases List.mem_cons.1 ((h b).2 List.mem_cons_self) with h2 | h2
        · exact h2.symm
        · exact absurd (cmpL_trans a b a (ha b h2) (hb a h1)) (lt_irrefl a)
    subst hab
    congr 1
    refine sorted_ext L M hL' hM' fun y => ?_
    constructor
    · intro hy
      rcases List.mem_cons.1 ((h y).1 (List.mem_cons_of_mem _ hy)) with h1 | h1
      · exact absurd (ha y hy) (by rw [h1]; exact lt_irrefl a)
      · exact h1
    · intro hy
      rcases List.mem_cons.1 ((h y).2 (List.mem_cons_of_mem _ hy)) with h1 | h1
      · exact absurd (hb y hy) (by rw [h1]; exact lt_irrefl a)
      · exact h1
theorem setL_same (L M : List Id) (h : ∀ y, y ∈ L ↔ y ∈ M) : setL L = setL M :=
  sorted_ext _ _ (setL_sorted L) (setL_sorted M) fun y => by rw [mem_setL, mem_setL]; exact h y
theorem setL_of_sorted (L : List Id) (h : Sorted L) : setL L = L := sorted_ext _ _ (setL_sorted L) h fun y => mem_setL L y
theorem setL_idem (L : List Id) : setL (setL L) = setL L := setL_of_sorted _ (setL_sorted L)
end Go.Proofs.YtmaolmogccknbaaDoor.ids
