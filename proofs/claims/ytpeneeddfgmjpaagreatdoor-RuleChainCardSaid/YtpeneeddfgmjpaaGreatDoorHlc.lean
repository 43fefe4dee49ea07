/-
  list.ahead over a list that is read; ident.Is.
  The landed header: the flaws that Check looks for, each a closure over the header.
-/
import Derived.Test.YtpeneeddfgmjpaaGreatDoorCmpb
import Derived.Deep.RegionHeld3
import Derived.Deep.LoopGhost
import Derived.Deep.CutRange
import Derived.Deep.CutBlock
import Derived.Test.YtpeneeddfgmjpaaGreatDoorIds
import Derived.Test.YtpeneeddfgmjpaaGreatDoorIdsqa
import Derived.Test.YtpeneeddfgmjpaaGreatDoorHdia
import Derived.Test.YtpeneeddfgmjpaaGreatDoorTopj
import Derived.Test.YtpeneeddfgmjpaaGreatDoorTurn
namespace Go.Proofs.YtpeneeddfgmjpaaGreatDoor.ids
open Go.RowKit Go.Proofs.YtpeneeddfgmjpaaGreatDoor.mem Go.Proofs.YtpeneeddfgmjpaaGreatDoor.sha

structure RdS (v : Value) (L : List (List UInt8)) (w0 w : World) : Prop where
 rd : RdV w v L
 below : Below w0.heap.size w0 w
theorem RdS.next {v : Value} {L : List (List UInt8)} {w0 w w' : World} (h : RdS v L w0 w) (hb : Below w.heap.size w w') : RdS v L w0 w' := ⟨h.rd.next hb, h.below.trans (hb.mono h.below.size)⟩
theorem dec_eq {c x : Int} (h : x = c) : decide (x < 0) = decide (c < 0) := by rw [h]

set_option maxHeartbeats 2000000 in
set_option maxRecDepth 100000 in
theorem ahead_rd {w : World} {v : Value} {L : List (List UInt8)} (h : RdV w v L) {i j : Nat} (hi : i < L.length) (hj : j < L.length) :
  Calls Tryz.prog 70 #[v, .int .i64 i, .int .i64 j] w fun e w' => e = .returned (.bool (decide (cmpL (L.getD i []) (L.getD j []) < 0))) ∧ Below w.heap.size w w' := by
 obtain ⟨ad, cap, rfl⟩ := h.form
 obtain ⟨b, off, rfl, -, -, -⟩ := h.load hi
 have HS := Lib.hid (show RdS (.slice (some ⟨b, off, none⟩) L.length cap) L w w from ⟨h, Below.refl _ _⟩)
 obtain ⟨x, hx⟩ : ∃ x, x = L.getD i [] := ⟨_, rfl⟩
 obtain ⟨y, hy⟩ : ∃ y, y = L.getD j [] := ⟨_, rfl⟩
 have hx32 : x.length = 32 := by rw [hx]; exact h.ok.get hi
 have hy32 : y.length = 32 := by rw [hy]; exact h.ok.get hj
 have HX := Lib.hid hx.symm
 have HY := Lib.hid hy.symm
 rw [← hx, ← hy]
 obtain ⟨c, hc⟩ : ∃ c, cmpL x y = c := ⟨_, rfl⟩
 have HD := Lib.hid (dec_eq hc)
 have i0 : (0 : Int) ≤ (i : Int) := Int.natCast_nonneg _
 have j0 : (0 : Int) ≤ (j : Int) := Int.natCast_nonneg _
 have iI : (i : Int) < (L.length : Int) := by omega
 have jI : (j : Int) < (L.length : Int) := by omega
 have HC := Lib.hid (fun w : World => compare_any x y w hx32 hy32)
 rw [hc] at HC
 clear h hx hy hc
 go_enter Tryz.func70, Tryz.ntmps70
 go_upto_region 1 with fail
 refine wp_region_held_drew (S := RdS (.slice (some ⟨b, off, none⟩) L.length cap) L w) (by kernel_rfl) ?_ (fun hHeld => ?_)
 ·
  exact HS.out.next ((Below.refl _ _).drew)
 refine' wpAnyH_take (i := 0) ?hiar0 (by kernel_rfl) (by kernel_rfl) (by kernel_rfl) ?hqar0 (Or.inl ⟨?hwar0, ?hyar0⟩) (by assumption) ?hrar0
 case hiar0 => (simp only [List.getElem?_toArray, List.getElem?_cons_zero]; rfl)
 case hqar0 => exact fun _ _ _ h => h
 case hwar0 => rfl
 case hyar0 => (intro w0 hSw; (try dsimp only at hSw); go_simp; try with_reducible rfl)
 (try simp only [Act.put, List.setIfInBounds_toArray, List.set_cons_zero, List.set_cons_succ])
 refine' wpAnyH_take (i := 1) ?hiar1 (by kernel_rfl) (by kernel_rfl) (by kernel_rfl) ?hqar1 (Or.inl ⟨?hwar1, ?hyar1⟩) (by assumption) ?hrar1
 case hiar1 => (simp only [List.getElem?_toArray, List.getElem?_cons_succ, List.getElem?_cons_zero]; rfl)
 case hqar1 => exact fun _ _ _ h => h
 case hwar1 => rfl
 case hyar1 => (intro w0 hSw; (try dsimp only at hSw); go_simp; try with_reducible rfl)
 (try simp only [Act.put, List.setIfInBounds_toArray, List.set_cons_zero, List.set_cons_succ])
 refine' wpAnyH_take (i := 2) ?hiar2 (by kernel_rfl) (by kernel_rfl) (by kernel_rfl) ?hqar2 (Or.inl ⟨?hwar2, ?hyar2⟩) (by assumption) ?hrar2
 case hiar2 => (simp only [List.getElem?_toArray, List.getElem?_cons_succ, List.getElem?_cons_zero]; rfl)
 case hqar2 => exact fun _ _ _ h => h
 case hwar2 => rfl
 case hyar2 => (intro w0 hSw; (try dsimp only at hSw); go_simp; try with_reducible rfl)
 (try simp only [Act.put, List.setIfInBounds_toArray, List.set_cons_zero, List.set_cons_succ])
 refine' wpAnyH_take (i := 3) ?hiar3 (by kernel_rfl) (by kernel_rfl) (by kernel_rfl) ?hqar3 (Or.inl ⟨?hwar3, ?hyar3⟩) (by assumption) ?hrar3
 case hiar3 => (simp only [List.getElem?_toArray, List.getElem?_cons_succ, List.getElem?_cons_zero]; rfl)
 case hqar3 => exact fun _ _ _ h => h
 case hwar3 => rfl
 case hyar3 => exact fun w0 hSw => run_exec_load rfl rfl (hSw.rd.load_y hi HX.out)
 (try simp only [Act.put, List.setIfInBounds_toArray, List.set_cons_zero, List.set_cons_succ])
 refine' wpAnyH_take (i := 4) ?hiar4 (by kernel_rfl) (by kernel_rfl) (by kernel_rfl) ?hqar4 (Or.inl ⟨?hwar4, ?hyar4⟩) (by assumption) ?hrar4
 case hiar4 => (simp only [List.getElem?_toArray, List.getElem?_cons_succ, List.getElem?_cons_zero]; rfl)
 case hqar4 => exact fun _ _ _ h => h
 case hwar4 => rfl
 case hyar4 => (intro w0 hSw; (try dsimp only at hSw); go_simp; try with_reducible rfl)
 (try simp only [Act.put, List.setIfInBounds_toArray, List.set_cons_zero, List.set_cons_succ])
 refine' wpAnyH_take (i := 5) ?hiar5 (by kernel_rfl) (by kernel_rfl) (by kernel_rfl) ?hqar5 (Or.inl ⟨?hwar5, ?hyar5⟩) (by assumption) ?hrar5
 case hiar5 => (simp only [List.getElem?_toArray, List.getElem?_cons_succ, List.getElem?_cons_zero]; rfl)
 case hqar5 => exact fun _ _ _ h => h
 case hwar5 => rfl
 case hyar5 => (intro w0 hSw; (try dsimp only at hSw); go_simp; try with_reducible rfl)
 (try simp only [Act.put, List.setIfInBounds_toArray, List.set_cons_zero, List.set_cons_succ])
 refine' wpAnyH_take (i := 6) ?hiar6 (by kernel_rfl) (by kernel_rfl) (by kernel_rfl) ?hqar6 (Or.inl ⟨?hwar6, ?hyar6⟩) (by assumption) ?hrar6
 case hiar6 => (simp only [List.getElem?_toArray, List.getElem?_cons_succ, List.getElem?_cons_zero]; rfl)
 case hqar6 => exact fun _ _ _ h => h
 case hwar6 => rfl
 case hyar6 => (intro w0 hSw; (try dsimp only at hSw); go_simp; try with_reducible rfl)
 (try simp only [Act.put, List.setIfInBounds_toArray, List.set_cons_zero, List.set_cons_succ])
 refine' wpAnyH_take (i := 7) ?hiar7 (by kernel_rfl) (by kernel_rfl) (by kernel_rfl) ?hqar7 (Or.inl ⟨?hwar7, ?hyar7⟩) (by assumption) ?hrar7
 case hiar7 => (simp only [List.getElem?_toArray, List.getElem?_cons_succ, List.getElem?_cons_zero]; rfl)
 case hqar7 => exact fun _ _ _ h => h
 case hwar7 => rfl
 case hyar7 => exact fun w0 hSw => run_exec_load rfl rfl (hSw.rd.load_y hj HY.out)
 (try simp only [Act.put, List.setIfInBounds_toArray, List.set_cons_zero, List.set_cons_succ])
 refine wpAnyH_ready (rs := [8]) (by kernel_rfl) (by simp) ?_
 refine' AllReadyH.cons ?hiar8 (fun K hK => ?hrar8) AllReadyH.nil
 case hiar8 => (simp only [List.getElem?_toArray, List.getElem?_cons_succ, List.getElem?_cons_zero]; rfl)
 go_simp
 refine (HC.out _).mono ?_; rintro e wA ⟨rfl, hbA⟩
 refine hK.out _ _ ?_ (fun hHeld => ?_)
 ·
  exact hHeld.next hbA
 clear hK K
 (try simp only [Act.put, List.setIfInBounds_toArray, List.set_cons_zero, List.set_cons_succ])
 refine' wpAnyH_take (i := 9) ?hiar9 (by kernel_rfl) (by kernel_rfl) (by kernel_rfl) ?hqar9 (Or.inl ⟨?hwar9, ?hyar9⟩) (by assumption) ?hrar9
 case hiar9 => (simp only [List.getElem?_toArray, List.getElem?_cons_succ, List.getElem?_cons_zero]; rfl)
 case hqar9 => exact fun _ _ _ h => h
 case hwar9 => rfl
 case hyar9 => (intro w0 hSw; (try dsimp only at hSw); go_simp; try with_reducible rfl)
 (try simp only [Act.put, List.setIfInBounds_toArray, List.set_cons_zero, List.set_cons_succ])
 refine' wpAnyH_take (i := 10) ?hiar10 (by kernel_rfl) (by kernel_rfl) (by kernel_rfl) ?hqar10 (Or.inl ⟨?hwar10, ?hyar10⟩) (by assumption) ?hrar10
 case hiar10 => (simp only [List.getElem?_toArray, List.getElem?_cons_succ, List.getElem?_cons_zero]; rfl)
 case hqar10 => exact fun _ _ _ h => h
 case hwar10 => rfl
 case hyar10 => (intro w0 hSw; (try dsimp only at hSw); go_simp; try with_reducible rfl)
 (try simp only [Act.put, List.setIfInBounds_toArray, List.set_cons_zero, List.set_cons_succ])
 refine wpAnyH_done (by kernel_rfl) ?_ _
 go_wp2_with fail
 go_ret
 rw [HD.out]
 exact ⟨rfl, hHeld.below⟩

theorem sorted_of_adj : ∀ L : List (List UInt8), (∀ j, j + 1 < L.length → cmpL (L.getD j []) (L.getD (j + 1) []) < 0) → Sorted L
 | [], _ => List.Pairwise.nil
 | [a], _ => List.pairwise_singleton _ _
 | a :: b :: L, h => by
  have ih := sorted_of_adj (b :: L) fun j hj => by
   have := h (j + 1) (by simpa using hj)
   rwa [List.getD_cons_succ, List.getD_cons_succ] at this
  have hab : cmpL a b < 0 := h 0 (by simp)
  refine List.pairwise_cons.2 ⟨fun y hy => ?_, ih⟩
  rcases List.mem_cons.1 hy with rfl | hy
  ·
   exact hab
  ·
   exact cmpL_trans a b y hab ((List.pairwise_cons.1 ih).1 y hy)
theorem adj_of_sorted : ∀ (L : List (List UInt8)), Sorted L → ∀ j, j + 1 < L.length → cmpL (L.getD j []) (L.getD (j + 1) []) < 0
 | [], _, j, hj => by simp at hj
 | a :: L, h, 0, hj => by
  cases L with
  | nil => simp at hj
  | cons b L => exact (List.pairwise_cons.1 h).1 b List.mem_cons_self
 | a :: L, h, j + 1, hj => by
  have := adj_of_sorted L (List.pairwise_cons.1 h).2 j (by simpa using hj)
  rwa [List.getD_cons_succ, List.getD_cons_succ]
theorem is_true {L : List (List UInt8)} (h : Sorted L) : (L == setL L) = true := by rw [setL_of_sorted L h]; exact beq_self_eq_true L
theorem is_false {L : List (List UInt8)} {j : Nat} (hj : j + 1 < L.length) (h : ¬ cmpL (L.getD j []) (L.getD (j + 1) []) < 0) : (L == setL L) = false := by
 rw [beq_eq_false_iff_ne]
 intro e
 exact h (adj_of_sorted L (by rw [e]; exact setL_sorted L) j hj)

set_option maxHeartbeats 2000000 in
set_option maxRecDepth 100000 in
theorem is_any (L : List (List UInt8)) (v : Value) (w : World) (hR : RdV w v L) (hm : L.length ≤ 1000) : Calls Tryz.prog 46 #[v] w fun e w' => e = .returned (.bool (L == setL L)) ∧ Below w.heap.size w w' := by
 obtain ⟨ad, cap, rfl⟩ := hR.form
 have HS := Lib.hid (show RdS (.slice ad L.length cap) L w w from ⟨hR, Below.refl _ _⟩)
 obtain ⟨r, hr⟩ : ∃ r, r = (L == setL L) := ⟨_, rfl⟩
 rw [← hr]
 have HV := Lib.hid hr
 clear hR hr
 go_enter Tryz.func46, Tryz.ntmps46
 go_wp2_with fail
 go_loopg [3] (L.length + 1) (fun gk s3 wr => ∃ i : Nat, s3 = .int .i64 ((i : Int) + 1) ∧ L.length + 1 - i ≤ gk ∧ Hid (∀ j, j < i → j + 1 < L.length → cmpL (L.getD j []) (L.getD (j + 1) []) < 0) ∧ Hid (RdS (.slice ad L.length cap) L w wr))
 case atStart => exact ⟨0, rfl, by omega, Lib.hid fun j hj => by omega, HS⟩
 case round =>
  obtain ⟨i, rfl, hgk, HN, HS2⟩ := hrel
  clear HS
  have i0 : (0 : Int) ≤ (i : Int) := Int.natCast_nonneg _
  by_cases hlt : i + 1 < L.length
  ·
   have hltz : (i : Int) + 1 < (L.length : Int) := by omega
   have hA := ahead_rd HS2.out.rd (i := i) (j := i + 1) (by omega) hlt
   rw [show ((i + 1 : Nat) : Int) = (i : Int) + 1 by omega] at hA
   by_cases hc : cmpL (L.getD i []) (L.getD (i + 1) []) < 0
   ·
    rw [decide_eq_true hc] at hA
    have HA := Lib.hid hA
    have HC := Lib.hid hc
    clear hA hc
    go_wp2_with (go_at_call 70; (with_reducible refine HA.out.mono ?_); rintro e w3 ⟨rfl, hB3⟩; have HB3 := Lib.hid hB3; clear hB3 HA)
    go_roundg (L.length + 1 - (i + 1))
    case measure => omega
    case rel => exact ⟨i + 1, by go_num, Nat.le_refl _, Lib.hid fun j hj hj2 => by
      rcases Nat.lt_or_ge j i with h | h
      ·
       exact HN.out j h hj2
      ·
       obtain rfl : j = i := by omega
       exact HC.out, Lib.hid (HS2.out.next HB3.out)⟩
   ·
    rw [decide_eq_false hc] at hA
    have HA := Lib.hid hA
    have HC := Lib.hid (is_false hlt hc)
    clear hA hc
    go_wp2_with (go_at_call 70; (with_reducible refine HA.out.mono ?_); rintro e w3 ⟨rfl, hB3⟩; have HB3 := Lib.hid hB3; clear hB3 HA)
    go_ret
    rw [HV.out, HC.out]
    exact ⟨rfl, (HS2.out.next HB3.out).below⟩
  ·
   have hltz : ¬ (i : Int) + 1 < (L.length : Int) := by omega
   have HC := Lib.hid (is_true (sorted_of_adj L fun j hj => HN.out j (by omega) hj))
   go_wp2_with fail
   go_ret
   rw [HV.out, HC.out]
   exact ⟨rfl, HS2.out.below⟩
end Go.Proofs.YtpeneeddfgmjpaaGreatDoor.ids

namespace Go.Proofs.YtpeneeddfgmjpaaGreatDoor.hdr
open Go.RowKit Go.Proofs.YtpeneeddfgmjpaaGreatDoor.mem Go.Proofs.YtpeneeddfgmjpaaGreatDoor.sha Go.Proofs.YtpeneeddfgmjpaaGreatDoor.ids
open Go.Proofs.YtpeneeddfgmjpaaGreatDoor.opn (b1 b2 b4 num txt idl byte rd rdN rdT rdI rdS rdL St Reads Stays endE zid mkId)

/-- the tables that header's calls read -/
def Tabs (w : World) : Prop := sha.Tab w ∧ topic.Tab w
theorem Tabs.next {w w' : World} (h : Tabs w) (hb : Below w.heap.size w w') : Tabs w' := ⟨h.1.next hb, h.2.next hb⟩

def ptr (S : Nat) : Value := .pointer (some ⟨S, 0, none⟩)
def flawsV (S : Nat) : List Value :=
  [.int .i64 6, .func (.func 44) #[] #[ptr S], .int .i64 4, .func (.func 45) #[] #[ptr S],
   .int .i64 12, .func (.func 47) #[] #[ptr S], .int .i64 12, .func (.func 48) #[] #[ptr S],
   .int .i64 9, .func (.func 49) #[] #[ptr S], .int .i64 5, .func (.func 51) #[] #[ptr S],
   .int .i64 5, .func (.func 52) #[] #[ptr S], .int .i64 5, .func (.func 53) #[] #[ptr S]]
set_option maxHeartbeats 2000000 in
set_option maxRecDepth 100000 in
theorem flaws_any (h : Hd) (v : Value) (w : World) :
    Calls Tryz.prog 32 #[hdv h v] w fun e w' => e = .returned (.slice (some ⟨w.heap.size + 1, 0, none⟩) 8 8) ∧ w' = (w.alloc (.cells (hdc h v).toArray 26)).alloc (.cells (flawsV w.heap.size).toArray 72) := by
  obtain ⟨c, hc⟩ : ∃ c, c = (hdc h v).toArray := ⟨_, rfl⟩
  unfold hdv
  rw [← hc]
  go_enter Tryz.func32, Tryz.ntmps32
  go_wp2_with fail
  go_ret
  exact ⟨rfl, by rw [hc]; rfl⟩

/-! Each of them. -/
def flawB (h : Hd) : Nat → Bool
  | 0 => decide (4 < h.parents.length)
  | 1 => !(h.parents == setL h.parents)
  | 2 => decide (h.height < 1) || decide (1073741824 < h.height)
  | 3 => (h.height == 1) != ((h.parents.length : Int) == 0)
  | 4 => decide (topic.kindOf h.topic = 0)
  | 5 => decide (h.author < 0) || decide (255 < h.author)
  | 6 => decide (h.seq < 1) || decide (1073741824 < h.seq)
  | _ => decide (h.size < 1) || decide (512 < h.size)
set_option maxHeartbeats 1000000 in
theorem flaw1 (h : Hd) (v : Value) (w : World) (S : Nat) (hb : Blk w S 26 (hdc h v).toArray) (hr : h.commit.length = 32) (hv : RdV w v h.parents) :
    Calls Tryz.prog 44 #[ptr S] w fun e w' => e = .returned (.bool (flawB h 0)) ∧ Below w.heap.size w w' := by
  obtain ⟨ad, cap, rfl⟩ := hv.form
  have c := (HdBlk.of hb hr).parents
  obtain ⟨n, hn⟩ : ∃ n, n = h.parents.length := ⟨_, rfl⟩
  have HE : Hid (flawB h 0 = decide ((4 : Int) < n)) := Lib.hid (by rw [hn]; unfold flawB; simp only [decide_eq_decide]; omega)
  rw [← hn] at c
  rw [HE.out]
  unfold ptr
  clear hb hn HE hv
  go_enter Tryz.func44, Tryz.ntmps44
  go_wp2_with fail
  go_ret
  exact ⟨rfl, Below.refl _ _⟩
set_option maxHeartbeats 1000000 in
theorem flaw2 (h : Hd) (v : Value) (w : World) (S : Nat) (hb : Blk w S 26 (hdc h v).toArray) (hr : h.commit.length = 32) (hv : RdV w v h.parents) (hm : h.parents.length ≤ 1000) :
    Calls Tryz.prog 45 #[ptr S] w fun e w' => e = .returned (.bool (flawB h 1)) ∧ Below w.heap.size w w' := by
  have HIS := Lib.hid (ids.is_any h.parents v w hv (by omega))
  obtain ⟨ad, cap, rfl⟩ := hv.form
  have c := (HdBlk.of hb hr).parents
  have HE : Hid (flawB h 1 = !(h.parents == setL h.parents)) := Lib.hid rfl
  obtain ⟨b, hbb⟩ : ∃ b, b = (h.parents == setL h.parents) := ⟨_, rfl⟩
  rw [← hbb] at HE HIS
  obtain ⟨n, hn⟩ : ∃ n, n = h.parents.length := ⟨_, rfl⟩
  rw [← hn] at c HIS
  rw [HE.out]
  unfold ptr
  clear hb hn HE hv hbb hm
  go_enter Tryz.func45, Tryz.ntmps45
  go_wp2_with (go_at_call 46; (with_reducible refine HIS.out.mono ?_); rintro e w1 ⟨rfl, hb1⟩)
  go_ret
  exact ⟨rfl, hb1⟩
set_option maxHeartbeats 1000000 in
theorem flaw4 (h : Hd) (v : Value) (w : World) (S : Nat) (hb : Blk w S 26 (hdc h v).toArray) (hr : h.commit.length = 32) (hv : RdV w v h.parents) :
    Calls Tryz.prog 48 #[ptr S] w fun e w' => e = .returned (.bool (flawB h 3)) ∧ Below w.heap.size w w' := by
  obtain ⟨ad, cap, rfl⟩ := hv.form
  have c := (HdBlk.of hb hr).parents
  have c2 := (HdBlk.of hb hr).height
  obtain ⟨n, hn⟩ : ∃ n, n = h.parents.length := ⟨_, rfl⟩
  obtain ⟨x, hx⟩ : ∃ x, x = h.height := ⟨_, rfl⟩
  have HE : Hid (flawB h 3 = ((x == 1) != ((n : Int) == 0))) := Lib.hid (by rw [hn, hx]; rfl)
  rw [← hn] at c
  rw [← hx] at c2
  rw [HE.out]
  unfold ptr
  clear hb hn hx HE hv
  go_enter Tryz.func48, Tryz.ntmps48
  go_wp2_with fail
  go_ret
  exact ⟨rfl, Below.refl _ _⟩
set_option maxHeartbeats 1000000 in
theorem flaw5 (h : Hd) (v : Value) (w : World) (S : Nat) (hT : topic.Tab w) (hb : Blk w S 26 (hdc h v).toArray) (hr : h.commit.length = 32) (hs : h.topic.length ≤ 140737488351232) :
    Calls Tryz.prog 49 #[ptr S] w fun e w' => e = .returned (.bool (flawB h 4)) ∧ Below w.heap.size w w' := by
  have HCK := Lib.hid (topic.check_any (oct.tx h.topic) w hT (by rw [oct.tx_size]; omega))
  rw [oct.tx_list] at HCK
  have c := (HdBlk.of hb hr).topic
  obtain ⟨t, ht⟩ : ∃ t, t = oct.tx h.topic := ⟨_, rfl⟩
  rw [← ht] at c HCK
  unfold ptr
  clear hb ht hs hT
  by_cases h0 : topic.kindOf h.topic = 0
  · have HE : Hid (flawB h 4 = true) := Lib.hid (by unfold flawB; exact decide_eq_true h0)
    have HC : Hid (topic.checkOf h.topic = 9) := Lib.hid (by unfold topic.checkOf; rw [if_pos h0])
    rw [HE.out]
    rw [HC.out] at HCK
    clear h0 HE HC
    go_enter Tryz.func49, Tryz.ntmps49
    go_wp2_with (go_at_call 50; (with_reducible refine HCK.out.mono ?_); rintro e w1 ⟨rfl, hb1⟩)
    go_ret
    exact ⟨rfl, hb1⟩
  · have HE : Hid (flawB h 4 = false) := Lib.hid (by unfold flawB; exact decide_eq_false h0)
    have HC : Hid (topic.checkOf h.topic = 0) := Lib.hid (by unfold topic.checkOf; rw [if_neg h0])
    rw [HE.out]
    rw [HC.out] at HCK
    clear h0 HE HC
    go_enter Tryz.func49, Tryz.ntmps49
    go_wp2_with (go_at_call 50; (with_reducible refine HCK.out.mono ?_); rintro e w1 ⟨rfl, hb1⟩)
    go_ret
    exact ⟨rfl, hb1⟩
set_option maxHeartbeats 1000000 in
theorem flaw3 (h : Hd) (v : Value) (w : World) (S : Nat) (hb : Blk w S 26 (hdc h v).toArray) (hr : h.commit.length = 32) :
    Calls Tryz.prog 47 #[ptr S] w fun e w' => e = .returned (.bool (flawB h 2)) ∧ Below w.heap.size w w' := by
  have c := (HdBlk.of hb hr).height
  obtain ⟨n, hn⟩ : ∃ n, n = h.height := ⟨_, rfl⟩
  have HE : Hid (flawB h 2 = (decide (n < 1) || decide (1073741824 < n))) := Lib.hid (by rw [hn]; rfl)
  rw [← hn] at c
  rw [HE.out]
  unfold ptr
  clear hb hn HE
  by_cases h1 : n < 1
  · go_enter Tryz.func47, Tryz.ntmps47
    go_wp2_with fail
    go_ret
    exact ⟨by simp [h1], Below.refl _ _⟩
  · have h1' : 1 ≤ n := by omega
    clear h1
    go_enter Tryz.func47, Tryz.ntmps47
    go_wp2_with fail
    go_ret
    exact ⟨by have : ¬ n < 1 := by omega
              simp [this], Below.refl _ _⟩
set_option maxHeartbeats 1000000 in
theorem flaw6 (h : Hd) (v : Value) (w : World) (S : Nat) (hb : Blk w S 26 (hdc h v).toArray) (hr : h.commit.length = 32) :
    Calls Tryz.prog 51 #[ptr S] w fun e w' => e = .returned (.bool (flawB h 5)) ∧ Below w.heap.size w w' := by
  have c := (HdBlk.of hb hr).author
  obtain ⟨n, hn⟩ : ∃ n, n = h.author := ⟨_, rfl⟩
  have HE : Hid (flawB h 5 = (decide (n < 0) || decide (255 < n))) := Lib.hid (by rw [hn]; rfl)
  rw [← hn] at c
  rw [HE.out]
  unfold ptr
  clear hb hn HE
  by_cases h1 : n < 0
  · go_enter Tryz.func51, Tryz.ntmps51
    go_wp2_with fail
    go_ret
    exact ⟨by simp [h1], Below.refl _ _⟩
  · have h1' : 0 ≤ n := by omega
    clear h1
    go_enter Tryz.func51, Tryz.ntmps51
    go_wp2_with fail
    go_ret
    exact ⟨by have : ¬ n < 0 := by omega
              simp [this], Below.refl _ _⟩
set_option maxHeartbeats 1000000 in
theorem flaw7 (h : Hd) (v : Value) (w : World) (S : Nat) (hb : Blk w S 26 (hdc h v).toArray) (hr : h.commit.length = 32) :
    Calls Tryz.prog 52 #[ptr S] w fun e w' => e = .returned (.bool (flawB h 6)) ∧ Below w.heap.size w w' := by
  have c := (HdBlk.of hb hr).seq
  obtain ⟨n, hn⟩ : ∃ n, n = h.seq := ⟨_, rfl⟩
  have HE : Hid (flawB h 6 = (decide (n < 1) || decide (1073741824 < n))) := Lib.hid (by rw [hn]; rfl)
  rw [← hn] at c
  rw [HE.out]
  unfold ptr
  clear hb hn HE
  by_cases h1 : n < 1
  · go_enter Tryz.func52, Tryz.ntmps52
    go_wp2_with fail
    go_ret
    exact ⟨by simp [h1], Below.refl _ _⟩
  · have h1' : 1 ≤ n := by omega
    clear h1
    go_enter Tryz.func52, Tryz.ntmps52
    go_wp2_with fail
    go_ret
    exact ⟨by have : ¬ n < 1 := by omega
              simp [this], Below.refl _ _⟩
set_option maxHeartbeats 1000000 in
theorem flaw8 (h : Hd) (v : Value) (w : World) (S : Nat) (hb : Blk w S 26 (hdc h v).toArray) (hr : h.commit.length = 32) :
    Calls Tryz.prog 53 #[ptr S] w fun e w' => e = .returned (.bool (flawB h 7)) ∧ Below w.heap.size w w' := by
  have c := (HdBlk.of hb hr).size
  obtain ⟨n, hn⟩ : ∃ n, n = h.size := ⟨_, rfl⟩
  have HE : Hid (flawB h 7 = (decide (n < 1) || decide (512 < n))) := Lib.hid (by rw [hn]; rfl)
  rw [← hn] at c
  rw [HE.out]
  unfold ptr
  clear hb hn HE
  by_cases h1 : n < 1
  · go_enter Tryz.func53, Tryz.ntmps53
    go_wp2_with fail
    go_ret
    exact ⟨by simp [h1], Below.refl _ _⟩
  · have h1' : 1 ≤ n := by omega
    clear h1
    go_enter Tryz.func53, Tryz.ntmps53
    go_wp2_with fail
    go_ret
    exact ⟨by have : ¬ n < 1 := by omega
              simp [this], Below.refl _ _⟩
end Go.Proofs.YtpeneeddfgmjpaaGreatDoor.hdr
