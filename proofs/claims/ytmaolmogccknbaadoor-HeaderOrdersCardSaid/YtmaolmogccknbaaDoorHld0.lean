/-
  What the listed tables of sha and topic give the walks of header; and that the program's own start lays them.
  The landed header: Check by its flaws; what stands while they are looked for.
-/
import Derived.Test.YtmaolmogccknbaaDoorKitl
import Derived.Test.YtmaolmogccknbaaDoorIdsqa
import Derived.Test.YtmaolmogccknbaaDoorIdb
import Derived.Test.YtmaolmogccknbaaDoorRefc
namespace Go.Proofs.YtmaolmogccknbaaDoor.kit
open Go.ChangeShapes Go.WideShapes Go.ChangeAt Go.RowKit Go.Proofs.YtmaolmogccknbaaDoor.sha Go.Proofs.YtmaolmogccknbaaDoor.strx

def listedH : List (String × DataW Unit) := [("petrel/sha.first", Rows.laid_petrel_sha_first), ("petrel/sha.k", Rows.laid_petrel_sha_k), ("petrel/topic.letters", Rows.laid_petrel_topic_letters)]
theorem door_metH (os : Os) (args : Array Value) : laidMetH Tryd.prog listedH ((World.doorLaid Tryd.prog 400 os).forCall (fun _ _ => 0) ⟨#[], args, []⟩).memory :=
  laidMetH_of_parts3 (fuel := 8) (laidMet_of_run' 8 (by kernel_rfl) (by kernel_rfl)) (by kernel_rfl) (by kernel_rfl)
theorem tabs_of_laid {W : World} (h : laidMetH Tryd.prog listedH W) : hdr.Tabs W := by
  rw [MakeChecks.laidMetH_plain _ _ _ (by kernel_rfl)] at h
  obtain ⟨ps, ⟨g0, t0, cs0, f0, p0, q0, hg0, ht0, hv0, hd0, ⟨g1, t1, cs1, f1, p1, q1, hg1, ht1, hv1, hd1, ⟨g2, t2, cs2, f2, p2, q2, hg2, ht2, hv2, hd2, _, _⟩, _⟩, _⟩, _, _⟩ := h
  obtain rfl := Option.some.inj (gFirst.symm.trans hg0)
  obtain rfl := Option.some.inj (gK.symm.trans hg1)
  obtain rfl := Option.some.inj (gLetters.symm.trans hg2)
  obtain rfl := Option.some.inj (tFirst.symm.trans ht0)
  obtain rfl := Option.some.inj (tK.symm.trans ht1)
  obtain rfl := Option.some.inj (tLetters.symm.trans ht2)
  have k0 := words_of_trod firstL Tryd.underlying120 _ hd0
  have k1 := words_of_trod kL Tryd.underlying131 _ hd1
  have k2 := strs_of_trod topic.letL Tryd.underlying139 _ hd2
  have c0 : ∀ j, j < 8 → W.cell? ⟨1, j, none⟩ = some (.int .u32 (U (firstL.getD j 0))) := fun j hj => by
    rw [World.var?_cell hg0 hv0 j, ← k0 j hj rfl]
    simp
  have c1 : ∀ j, j < 64 → W.cell? ⟨2, j, none⟩ = some (.int .u32 (U (kk j))) := fun j hj => by
    rw [World.var?_cell hg1 hv1 j]
    have := k1 j hj rfl
    unfold kk
    rw [← this]
    simp
  have c2 : ∀ j, j < 6 → W.cell? ⟨4, j, none⟩ = some (.string (bt (topic.letL.getD j []))) := fun j hj => by
    rw [World.var?_cell hg2 hv2 j, ← k2 j hj rfl]
    simp
  exact ⟨⟨block_lt_of_cell (c1 0 (by decide)), c0, c1⟩, block_lt_of_cell (c2 0 (by decide)), c2⟩
theorem rsum : hdr.RSum := rsum_any
end Go.Proofs.YtmaolmogccknbaaDoor.kit

namespace Go.Proofs.YtmaolmogccknbaaDoor.hdr
open Go.RowKit Go.Proofs.YtmaolmogccknbaaDoor.mem Go.Proofs.YtmaolmogccknbaaDoor.sha Go.Proofs.YtmaolmogccknbaaDoor.ids
open Go.Proofs.YtmaolmogccknbaaDoor.opn (b1 b2 b4 num txt idl byte rd rdN rdT rdI rdS rdL St Reads Stays endE zid mkId)

/-- what stands while the flaws are looked for -/
structure FlS (h : Hd) (v : Value) (w0 : World) (S R : Nat) (w : World) : Prop where
  t : Tabs w
  hd : Blk w S 46 (hdc h v).toArray
  row : Blk w R 96 (flawsV S).toArray
  rd : RdV w v h.parents
  below : Below w0.heap.size w0 w
theorem FlS.next {h : Hd} {v : Value} {w0 : World} {S R : Nat} {w w' : World} (f : FlS h v w0 S R w) (hb : Below w.heap.size w w') : FlS h v w0 S R w' :=
  ⟨f.t.next hb, f.hd.below hb f.hd.lt, f.row.below hb f.row.lt, f.rd.next hb, f.below.trans (hb.mono f.below.size)⟩
theorem FlS.cell {h : Hd} {v : Value} {w0 : World} {S R : Nat} {w : World} (f : FlS h v w0 S R w) (j : Nat) : w.cell? ⟨R, j, none⟩ = (flawsV S)[j]? := by rw [f.row.cell, List.getElem?_toArray]

theorem checkH_eq (h : Hd) : checkH h = if flawB h 0 then 6 else if flawB h 1 then 4 else if flawB h 2 then 12 else if flawB h 3 then 12 else if flawB h 4 then 9 else if flawB h 5 then 5 else if flawB h 6 then 5 else if flawB h 7 then 5 else 0 := by
  have e0 : flawB h 0 = true ↔ 4 < h.parents.length := decide_eq_true_iff
  have e1 : flawB h 1 = true ↔ (h.parents == setL h.parents) = false := by unfold flawB; cases (h.parents == setL h.parents) <;> simp
  have e2 : flawB h 2 = true ∨ flawB h 3 = true ↔ badHeight h := by
    show (decide (h.height < 1) || decide (1073741824 < h.height)) = true ∨ ((h.height == 1) != ((h.parents.length : Int) == 0)) = true ↔ h.height < 1 ∨ 1073741824 < h.height ∨ ¬ (h.parents.length = 0 ↔ h.height = 1)
    rw [Bool.or_eq_true, decide_eq_true_iff, decide_eq_true_iff]
    have : ((h.height == 1) != ((h.parents.length : Int) == 0)) = true ↔ ¬ (h.parents.length = 0 ↔ h.height = 1) := by
      rw [bne_iff_ne, ne_eq, Bool.eq_iff_iff, beq_iff_eq, beq_iff_eq]
      omega
    rw [this, or_assoc]
  have e4 : flawB h 4 = true ↔ topic.kindOf h.topic = 0 := decide_eq_true_iff
  have e5 : flawB h 5 = true ∨ flawB h 6 = true ∨ flawB h 7 = true ↔ badRange h := by
    show (decide (h.author < 0) || decide (255 < h.author)) = true ∨ (decide (h.seq < 1) || decide (1073741824 < h.seq)) = true ∨ (decide (h.size < 1) || decide (512 < h.size)) = true ↔ h.author < 0 ∨ 255 < h.author ∨ h.seq < 1 ∨ 1073741824 < h.seq ∨ h.size < 1 ∨ 512 < h.size
    simp only [Bool.or_eq_true, decide_eq_true_iff]
    omega
  unfold checkH
  by_cases h0 : 4 < h.parents.length
  · rw [if_pos h0, if_pos (e0.2 h0)]
  rw [if_neg h0, if_neg (fun e => h0 (e0.1 e))]
  by_cases h1 : (h.parents == setL h.parents) = false
  · rw [if_pos h1, if_pos (e1.2 h1)]
  rw [if_neg h1, if_neg (fun e => h1 (e1.1 e))]
  by_cases h2 : badHeight h
  · rw [if_pos h2]
    rcases e2.2 h2 with a | a
    · rw [if_pos a]
    · by_cases b : flawB h 2 = true
      · rw [if_pos b]
      · rw [if_neg b, if_pos a]
  rw [if_neg h2, if_neg (fun e => h2 (e2.1 (.inl e))), if_neg (fun e => h2 (e2.1 (.inr e)))]
  by_cases h3 : topic.kindOf h.topic = 0
  · rw [if_pos h3, if_pos (e4.2 h3)]
  rw [if_neg h3, if_neg (fun e => h3 (e4.1 e))]
  by_cases h4 : badRange h
  · rw [if_pos h4]
    by_cases a : flawB h 5 = true
    · rw [if_pos a]
    rw [if_neg a]
    by_cases b : flawB h 6 = true
    · rw [if_pos b]
    rw [if_neg b]
    by_cases c : flawB h 7 = true
    · rw [if_pos c]
    · exact absurd (e5.2 h4) (fun x => x.elim a fun y => y.elim b c)
  · rw [if_neg h4, if_neg (fun e => h4 (e5.1 (.inl e))), if_neg (fun e => h4 (e5.1 (.inr (.inl e)))), if_neg (fun e => h4 (e5.1 (.inr (.inr e))))]
/-- the numbers, in their order -/
def flawE (k : Nat) : Int := [6, 4, 12, 12, 9, 5, 5, 5].getD k 0
theorem iff_ {b : Bool} {x y : Int} (h : b = false) : (if b = true then x else y) = y := by rw [h]; rfl
theorem ift_ {b : Bool} {x y : Int} (h : b = true) : (if b = true then x else y) = x := by rw [h]; rfl
theorem checkH_0 (h : Hd) (hno : ∀ j : Nat, (j : Int) < 0 → flawB h j = false) (hy : flawB h 0 = true) : checkH h = flawE 0 := by
  rw [checkH_eq, ift_ hy]; rfl
theorem checkH_1 (h : Hd) (hno : ∀ j : Nat, (j : Int) < 1 → flawB h j = false) (hy : flawB h 1 = true) : checkH h = flawE 1 := by
  rw [checkH_eq, iff_ (hno 0 (by omega)), ift_ hy]; rfl
theorem checkH_2 (h : Hd) (hno : ∀ j : Nat, (j : Int) < 2 → flawB h j = false) (hy : flawB h 2 = true) : checkH h = flawE 2 := by
  rw [checkH_eq, iff_ (hno 0 (by omega)), iff_ (hno 1 (by omega)), ift_ hy]; rfl
theorem checkH_3 (h : Hd) (hno : ∀ j : Nat, (j : Int) < 3 → flawB h j = false) (hy : flawB h 3 = true) : checkH h = flawE 3 := by
  rw [checkH_eq, iff_ (hno 0 (by omega)), iff_ (hno 1 (by omega)), iff_ (hno 2 (by omega)), ift_ hy]; rfl
theorem checkH_4 (h : Hd) (hno : ∀ j : Nat, (j : Int) < 4 → flawB h j = false) (hy : flawB h 4 = true) : checkH h = flawE 4 := by
  rw [checkH_eq, iff_ (hno 0 (by omega)), iff_ (hno 1 (by omega)), iff_ (hno 2 (by omega)), iff_ (hno 3 (by omega)), ift_ hy]; rfl
theorem checkH_5 (h : Hd) (hno : ∀ j : Nat, (j : Int) < 5 → flawB h j = false) (hy : flawB h 5 = true) : checkH h = flawE 5 := by
  rw [checkH_eq, iff_ (hno 0 (by omega)), iff_ (hno 1 (by omega)), iff_ (hno 2 (by omega)), iff_ (hno 3 (by omega)), iff_ (hno 4 (by omega)), ift_ hy]; rfl
theorem checkH_6 (h : Hd) (hno : ∀ j : Nat, (j : Int) < 6 → flawB h j = false) (hy : flawB h 6 = true) : checkH h = flawE 6 := by
  rw [checkH_eq, iff_ (hno 0 (by omega)), iff_ (hno 1 (by omega)), iff_ (hno 2 (by omega)), iff_ (hno 3 (by omega)), iff_ (hno 4 (by omega)), iff_ (hno 5 (by omega)), ift_ hy]; rfl
theorem checkH_7 (h : Hd) (hno : ∀ j : Nat, (j : Int) < 7 → flawB h j = false) (hy : flawB h 7 = true) : checkH h = flawE 7 := by
  rw [checkH_eq, iff_ (hno 0 (by omega)), iff_ (hno 1 (by omega)), iff_ (hno 2 (by omega)), iff_ (hno 3 (by omega)), iff_ (hno 4 (by omega)), iff_ (hno 5 (by omega)), iff_ (hno 6 (by omega)), ift_ hy]; rfl
theorem checkH_none (h : Hd) (hno : ∀ j : Nat, (j : Int) < 8 → flawB h j = false) : checkH h = 0 := by
  rw [checkH_eq, iff_ (hno 0 (by omega)), iff_ (hno 1 (by omega)), iff_ (hno 2 (by omega)), iff_ (hno 3 (by omega)), iff_ (hno 4 (by omega)), iff_ (hno 5 (by omega)), iff_ (hno 6 (by omega)), iff_ (hno 7 (by omega))]

end Go.Proofs.YtmaolmogccknbaaDoor.hdr
