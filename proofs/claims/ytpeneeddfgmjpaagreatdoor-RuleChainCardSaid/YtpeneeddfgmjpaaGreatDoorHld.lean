/-
  The landed header: Check by its flaws; what stands while they are looked for.
  The landed header: Check.
-/
import Derived.Test.YtpeneeddfgmjpaaGreatDoorHlc
import Derived.WalkMore
import Derived.Laws.EntriesVeiled
namespace Go.Proofs.YtpeneeddfgmjpaaGreatDoor.hdr
open Go.RowKit Go.Proofs.YtpeneeddfgmjpaaGreatDoor.mem Go.Proofs.YtpeneeddfgmjpaaGreatDoor.sha Go.Proofs.YtpeneeddfgmjpaaGreatDoor.ids
open Go.Proofs.YtpeneeddfgmjpaaGreatDoor.opn (b1 b2 b4 num txt idl byte rd rdN rdT rdI rdS rdL St Reads Stays endE zid mkId)

/-- what stands while the flaws are looked for -/
structure FlS (h : Hd) (v : Value) (w0 : World) (S R : Nat) (w : World) : Prop where
 t : Tabs w
 hd : Blk w S 26 (hdc h v).toArray
 row : Blk w R 72 (flawsV S).toArray
 rd : RdV w v h.parents
 below : Below w0.heap.size w0 w
theorem FlS.next {h : Hd} {v : Value} {w0 : World} {S R : Nat} {w w' : World} (f : FlS h v w0 S R w) (hb : Below w.heap.size w w') : FlS h v w0 S R w' :=
 ⟨f.t.next hb, f.hd.below hb f.hd.lt, f.row.below hb f.row.lt, f.rd.next hb, f.below.trans (hb.mono f.below.size)⟩
theorem FlS.cell {h : Hd} {v : Value} {w0 : World} {S R : Nat} {w : World} (f : FlS h v w0 S R w) (j : Nat) : w.cell? ⟨R, j, none⟩ = (flawsV S)[j]? := by rw [f.row.cell, List.getElem?_toArray]

theorem checkH_eq (h : Hd) : checkH h = if flawB h 0 then 6 else if flawB h 1 then 4 else if flawB h 2 then 12 else if flawB h 3 then 12 else if flawB h 4 then 9 else if flawB h 5 then 5 else if flawB h 6 then 5 else if flawB h 7 then 5 else 0 := by
 have e0 : flawB h 0 = true ↔ 4 < h.parents.length := decide_eq_true_iff
 have e1 : flawB h 1 = true ↔ (h.parents == setL h.parents) = false := by unfold flawB; cases (h.parents == setL h.parents) <;> simp
 have e2 : flawB h 2 = true ∨ flawB h 3 = true ↔ badHeight h := by
  show (decide (h.height < 1) || decide (1073741824 < h.height)) = true ∨ ((h.height == 1) != ((h.parents.length : Int) == 0)) = true ↔ h.height < 1 ∨ 1073741824 < h.height ∨ ¬ (h.parents.length = 0 ↔ h.height = 1)
  rw [Bool.or_eq_true, decide_eq_true_iff, decide_eq_true_iff]
  have : ((h.height == 1) != ((h.parents.length : Int) == 0)) = true ↔ ¬ (h.parents.length = 0 ↔ h.height = 1) := by
   rw [bne_iff_ne, ne_eq, Bool.eq_iff_iff, beq_iff_eq, beq_iff_eq]
   omega
  rw [this, or_assoc]
 have e4 : flawB h 4 = true ↔ topic.kindOf h.topic = 0 := decide_eq_true_iff
 have e5 : flawB h 5 = true ∨ flawB h 6 = true ∨ flawB h 7 = true ↔ badRange h := by
  show (decide (h.author < 0) || decide (255 < h.author)) = true ∨ (decide (h.seq < 1) || decide (1073741824 < h.seq)) = true ∨ (decide (h.size < 1) || decide (512 < h.size)) = true ↔ h.author < 0 ∨ 255 < h.author ∨ h.seq < 1 ∨ 1073741824 < h.seq ∨ h.size < 1 ∨ 512 < h.size
  simp only [Bool.or_eq_true, decide_eq_true_iff]
  omega
 unfold checkH
 by_cases h0 : 4 < h.parents.length
 ·
  rw [if_pos h0, if_pos (e0.2 h0)]
 rw [if_neg h0, if_neg (fun e => h0 (e0.1 e))]
 by_cases h1 : (h.parents == setL h.parents) = false
 ·
  rw [if_pos h1, if_pos (e1.2 h1)]
 rw [if_neg h1, if_neg (fun e => h1 (e1.1 e))]
 by_cases h2 : badHeight h
 ·
  rw [if_pos h2]
  rcases e2.2 h2 with a | a
  ·
   rw [if_pos a]
  ·
   by_cases b : flawB h 2 = true
   ·
    rw [if_pos b]
   ·
    rw [if_neg b, if_pos a]
 rw [if_neg h2, if_neg (fun e => h2 (e2.1 (.inl e))), if_neg (fun e => h2 (e2.1 (.inr e)))]
 by_cases h3 : topic.kindOf h.topic = 0
 ·
  rw [if_pos h3, if_pos (e4.2 h3)]
 rw [if_neg h3, if_neg (fun e => h3 (e4.1 e))]
 by_cases h4 : badRange h
 ·
  rw [if_pos h4]
  by_cases a : flawB h 5 = true
  ·
   rw [if_pos a]
  rw [if_neg a]
  by_cases b : flawB h 6 = true
  ·
   rw [if_pos b]
  rw [if_neg b]
  by_cases c : flawB h 7 = true
  ·
   rw [if_pos c]
  ·
   exact absurd (e5.2 h4) (fun x => x.elim a fun y => y.elim b c)
 ·
  rw [if_neg h4, if_neg (fun e => h4 (e5.1 (.inl e))), if_neg (fun e => h4 (e5.1 (.inr (.inl e)))), if_neg (fun e => h4 (e5.1 (.inr (.inr e))))]
/-- the numbers, in their order -/
def flawE (k : Nat) : Int := [6, 4, 12, 12, 9, 5, 5, 5].getD k 0
theorem iff_ {b : Bool} {x y : Int} (h : b = false) : (if b = true then x else y) = y := by rw [h]; rfl
theorem ift_ {b : Bool} {x y : Int} (h : b = true) : (if b = true then x else y) = x := by rw [h]; rfl
theorem checkH_0 (h : Hd) (hno : ∀ j : Nat, (j : Int) < 0 → flawB h j = false) (hy : flawB h 0 = true) : checkH h = flawE 0 := by
 rw [checkH_eq, ift_ hy]; rfl
theorem checkH_1 (h : Hd) (hno : ∀ j : Nat, (j : Int) < 1 → flawB h j = false) (hy : flawB h 1 = true) : checkH h = flawE 1 := by
 rw [checkH_eq, iff_ (hno 0 (by omega)), ift_ hy]; rfl
theorem checkH_2 (h : Hd) (hno : ∀ j : Nat, (j : Int) < 2 → flawB h j = false) (hy : flawB h 2 = true) : checkH h = flawE 2 := by
 rw [checkH_eq, iff_ (hno 0 (by omega)), iff_ (hno 1 (by omega)), ift_ hy]; rfl
theorem checkH_3 (h : Hd) (hno : ∀ j : Nat, (j : Int) < 3 → flawB h j = false) (hy : flawB h 3 = true) : checkH h = flawE 3 := by
 rw [checkH_eq, iff_ (hno 0 (by omega)), iff_ (hno 1 (by omega)), iff_ (hno 2 (by omega)), ift_ hy]; rfl
theorem checkH_4 (h : Hd) (hno : ∀ j : Nat, (j : Int) < 4 → flawB h j = false) (hy : flawB h 4 = true) : checkH h = flawE 4 := by
 rw [checkH_eq, iff_ (hno 0 (by omega)), iff_ (hno 1 (by omega)), iff_ (hno 2 (by omega)), iff_ (hno 3 (by omega)), ift_ hy]; rfl
theorem checkH_5 (h : Hd) (hno : ∀ j : Nat, (j : Int) < 5 → flawB h j = false) (hy : flawB h 5 = true) : checkH h = flawE 5 := by
 rw [checkH_eq, iff_ (hno 0 (by omega)), iff_ (hno 1 (by omega)), iff_ (hno 2 (by omega)), iff_ (hno 3 (by omega)), iff_ (hno 4 (by omega)), ift_ hy]; rfl
theorem checkH_6 (h : Hd) (hno : ∀ j : Nat, (j : Int) < 6 → flawB h j = false) (hy : flawB h 6 = true) : checkH h = flawE 6 := by
 rw [checkH_eq, iff_ (hno 0 (by omega)), iff_ (hno 1 (by omega)), iff_ (hno 2 (by omega)), iff_ (hno 3 (by omega)), iff_ (hno 4 (by omega)), iff_ (hno 5 (by omega)), ift_ hy]; rfl
theorem checkH_7 (h : Hd) (hno : ∀ j : Nat, (j : Int) < 7 → flawB h j = false) (hy : flawB h 7 = true) : checkH h = flawE 7 := by
 rw [checkH_eq, iff_ (hno 0 (by omega)), iff_ (hno 1 (by omega)), iff_ (hno 2 (by omega)), iff_ (hno 3 (by omega)), iff_ (hno 4 (by omega)), iff_ (hno 5 (by omega)), iff_ (hno 6 (by omega)), ift_ hy]; rfl
theorem checkH_none (h : Hd) (hno : ∀ j : Nat, (j : Int) < 8 → flawB h j = false) : checkH h = 0 := by
 rw [checkH_eq, iff_ (hno 0 (by omega)), iff_ (hno 1 (by omega)), iff_ (hno 2 (by omega)), iff_ (hno 3 (by omega)), iff_ (hno 4 (by omega)), iff_ (hno 5 (by omega)), iff_ (hno 6 (by omega)), iff_ (hno 7 (by omega))]

end Go.Proofs.YtpeneeddfgmjpaaGreatDoor.hdr

namespace Go.Proofs.YtpeneeddfgmjpaaGreatDoor.hdr
open Go.RowKit Go.Proofs.YtpeneeddfgmjpaaGreatDoor.mem Go.Proofs.YtpeneeddfgmjpaaGreatDoor.sha Go.Proofs.YtpeneeddfgmjpaaGreatDoor.ids
open Go.Proofs.YtpeneeddfgmjpaaGreatDoor.opn (b1 b2 b4 num txt idl byte rd rdN rdT rdI rdS rdL St Reads Stays endE zid mkId)

set_option maxHeartbeats 4000000 in
set_option maxRecDepth 100000 in
theorem lcheck_any (h : Hd) (v : Value) (w : World) (hT : Tabs w) (hr : h.commit.length = 32) (hv : RdV w v h.parents) (hm : h.parents.length ≤ 1000) (hs : h.topic.length ≤ 140737488351232) :
  Calls Tryz.prog 20 #[hdv h v] w fun e w' => e = .returned (.int .i64 (checkH h)) ∧ Below w.heap.size w w' := by
 obtain ⟨X, hX⟩ : ∃ S, S = w.heap.size := ⟨_, rfl⟩
 obtain ⟨w1, hw1⟩ : ∃ u, u = w.alloc (.cells (hdc h v).toArray 26) := ⟨_, rfl⟩
 have hb1 : Blk w1 X 26 (hdc h v).toArray := by rw [hw1, hX]; exact Blk.new w _ _
 have hbl : Below w.heap.size w w1 := by rw [hw1]; exact (Below.refl _ _).alloc (Nat.le_refl _) _
 have hld := run_load_hd hb1 hr
 have hfl := flaws_any h v w1
 obtain ⟨S, hS⟩ : ∃ S, S = w1.heap.size := ⟨_, rfl⟩
 rw [← hS] at hfl
 obtain ⟨w2, hw2⟩ : ∃ u, u = (w1.alloc (.cells (hdc h v).toArray 26)).alloc (.cells (flawsV S).toArray 72) := ⟨_, rfl⟩
 rw [← hw2] at hfl
 have hb2 : Below w1.heap.size w1 w2 := by rw [hw2]; exact ((Below.refl _ _).alloc (Nat.le_refl _) _).alloc (by simp) _
 have hf : FlS h v w S (S + 1) w2 := by
  refine ⟨(hT.next hbl).next hb2, ?_, ?_, (hv.next hbl).next hb2, hbl.trans (hb2.mono hbl.size)⟩
  ·
   rw [hw2, hS]; exact (Blk.new w1 _ _).alloc _
  ·
   rw [hw2, hS]; exact Blk.at_ (by simp) _ _
 have HF := Lib.hid hf
 have HFL := Lib.hid hfl
 have HW := Lib.hid hw1
 have HXX := Lib.hid hX
 clear hT hv hb1 hbl hfl hS hw2 hb2 hf hw1 hX
 unfold hdv
 obtain ⟨c, hc⟩ : ∃ c, c = (hdc h v).toArray := ⟨_, rfl⟩
 have HC := Lib.hid hc
 rw [← hc] at HW
 unfold hdv at hld HFL
 rw [← hc] at hld HFL ⊢
 clear hc
 go_enter Tryz.func20, Tryz.ntmps20
 go_upto_region 1 with fail
 refine wp_at HW.out.symm ?_
 rw [← HXX.out]
 clear HW
 go_step3
 go_wp2_with fail
 go_step3
 go_wp2_with (first
  | ((with_reducible refine step_load (t := 26) (x := .tmp 1) (p := ?lp1) (v := ?lv1) ?lg1 ?lo1 ?lx1 ?lr1 ?lh1); (case lg1 => rfl); (case lo1 => rfl); (case lx1 => rfl); (case lr1 => exact hld))
  | (go_at_call 32; (with_reducible refine HFL.out.mono ?_); rintro e w3 ⟨rfl, rfl⟩))
 clear hld HFL
 go_loopw [3, 9] (fun e i wr => ∃ k : Int, 0 ≤ k ∧ k ≤ 8 ∧ e = .int .i64 0 ∧ i = .int .i64 k ∧ FlS h v w S (S + 1) wr ∧ ∀ j : Nat, (j : Int) < k → flawB h j = false) (fun _ i _ => 8 - (intOf i).toNat)
 case atStart => exact ⟨0, by decide, by decide, rfl, rfl, HF.out, fun j hj => by omega⟩
 case round =>
  clear HF
  obtain ⟨k, h0, h8, rfl, rfl, hf, hno⟩ := hrel
  have HF := Lib.hid hf
  have HNO := Lib.hid hno
  have c0 := fun j => hf.cell j
  clear hf hno
  by_cases hlt : k < 8
  ·
   rcases (show k = 0 ∨ k = 1 ∨ k = 2 ∨ k = 3 ∨ k = 4 ∨ k = 5 ∨ k = 6 ∨ k = 7 by omega) with rfl | rfl | rfl | rfl | rfl | rfl | rfl | rfl
   ·
    have d0 : wr.cell? ⟨S + 1, 0, none⟩ = some (.int .i64 6) := c0 0
    have d1 : wr.cell? ⟨S + 1, 1, none⟩ = some (.func (.func 44) #[] #[.pointer (some ⟨S, 0, none⟩)]) := c0 1
    have f4 : FlS h v w S (S + 1) (wr.alloc (.cells #[.int .i64 6, .func (.func 44) #[] #[.pointer (some ⟨S, 0, none⟩)]] 72)) := HF.out.next ((Below.refl _ _).alloc (Nat.le_refl _) _)
    have hk4 : Blk (wr.alloc (.cells #[.int .i64 6, .func (.func 44) #[] #[.pointer (some ⟨S, 0, none⟩)]] 72)) wr.heap.size 72 #[.int .i64 6, .func (.func 44) #[] #[.pointer (some ⟨S, 0, none⟩)]] := Blk.new wr _ _
    have HK := Lib.hid (flaw1 h v _ S f4.hd hr f4.rd)
    have F4 := Lib.hid f4
    have K4 := Lib.hid hk4
    unfold ptr at HK
    clear c0 f4 hk4 HF
    cases hq : flawB h 0 with
    | true =>
     have HE := Lib.hid (checkH_0 h HNO.out hq)
     rw [hq] at HK
     clear hq
     go_wp2_with (go_at_call 44; (with_reducible refine HK.out.mono ?_); rintro e w5 ⟨rfl, hb5⟩; have d5 : w5.cell? ⟨wr.heap.size, 0, none⟩ = some (.int .i64 6) := (K4.out.below hb5 K4.out.lt).cell 0; have F5 := Lib.hid (F4.out.next hb5); clear hb5)
     rw [Exit.noGoto_ret]
     go_ret
     exact ⟨by rw [HE.out]; rfl, F5.out.below⟩
    | false =>
     rw [hq] at HK
     have HQ := Lib.hid hq
     clear hq
     go_wp2_with (go_at_call 44; (with_reducible refine HK.out.mono ?_); rintro e w5 ⟨rfl, hb5⟩; have F5 := Lib.hid (F4.out.next hb5); clear hb5)
     go_roundw
     case rel => exact ⟨1, by decide, by decide, rfl, rfl, F5.out, fun j hj => by
      by_cases hj2 : j = 0
      ·
       rw [hj2]; exact HQ.out
      ·
       exact HNO.out j (by omega)⟩
     case measure => simp [intOf]
   ·
    have d0 : wr.cell? ⟨S + 1, 2, none⟩ = some (.int .i64 4) := c0 2
    have d1 : wr.cell? ⟨S + 1, 3, none⟩ = some (.func (.func 45) #[] #[.pointer (some ⟨S, 0, none⟩)]) := c0 3
    have f4 : FlS h v w S (S + 1) (wr.alloc (.cells #[.int .i64 4, .func (.func 45) #[] #[.pointer (some ⟨S, 0, none⟩)]] 72)) := HF.out.next ((Below.refl _ _).alloc (Nat.le_refl _) _)
    have hk4 : Blk (wr.alloc (.cells #[.int .i64 4, .func (.func 45) #[] #[.pointer (some ⟨S, 0, none⟩)]] 72)) wr.heap.size 72 #[.int .i64 4, .func (.func 45) #[] #[.pointer (some ⟨S, 0, none⟩)]] := Blk.new wr _ _
    have HK := Lib.hid (flaw2 h v _ S f4.hd hr f4.rd hm)
    have F4 := Lib.hid f4
    have K4 := Lib.hid hk4
    unfold ptr at HK
    clear c0 f4 hk4 HF
    cases hq : flawB h 1 with
    | true =>
     have HE := Lib.hid (checkH_1 h HNO.out hq)
     rw [hq] at HK
     clear hq
     go_wp2_with (go_at_call 45; (with_reducible refine HK.out.mono ?_); rintro e w5 ⟨rfl, hb5⟩; have d5 : w5.cell? ⟨wr.heap.size, 0, none⟩ = some (.int .i64 4) := (K4.out.below hb5 K4.out.lt).cell 0; have F5 := Lib.hid (F4.out.next hb5); clear hb5)
     rw [Exit.noGoto_ret]
     go_ret
     exact ⟨by rw [HE.out]; rfl, F5.out.below⟩
    | false =>
     rw [hq] at HK
     have HQ := Lib.hid hq
     clear hq
     go_wp2_with (go_at_call 45; (with_reducible refine HK.out.mono ?_); rintro e w5 ⟨rfl, hb5⟩; have F5 := Lib.hid (F4.out.next hb5); clear hb5)
     go_roundw
     case rel => exact ⟨2, by decide, by decide, rfl, rfl, F5.out, fun j hj => by
      by_cases hj2 : j = 1
      ·
       rw [hj2]; exact HQ.out
      ·
       exact HNO.out j (by omega)⟩
     case measure => simp [intOf]
   ·
    have d0 : wr.cell? ⟨S + 1, 4, none⟩ = some (.int .i64 12) := c0 4
    have d1 : wr.cell? ⟨S + 1, 5, none⟩ = some (.func (.func 47) #[] #[.pointer (some ⟨S, 0, none⟩)]) := c0 5
    have f4 : FlS h v w S (S + 1) (wr.alloc (.cells #[.int .i64 12, .func (.func 47) #[] #[.pointer (some ⟨S, 0, none⟩)]] 72)) := HF.out.next ((Below.refl _ _).alloc (Nat.le_refl _) _)
    have hk4 : Blk (wr.alloc (.cells #[.int .i64 12, .func (.func 47) #[] #[.pointer (some ⟨S, 0, none⟩)]] 72)) wr.heap.size 72 #[.int .i64 12, .func (.func 47) #[] #[.pointer (some ⟨S, 0, none⟩)]] := Blk.new wr _ _
    have HK := Lib.hid (flaw3 h v _ S f4.hd hr)
    have F4 := Lib.hid f4
    have K4 := Lib.hid hk4
    unfold ptr at HK
    clear c0 f4 hk4 HF
    cases hq : flawB h 2 with
    | true =>
     have HE := Lib.hid (checkH_2 h HNO.out hq)
     rw [hq] at HK
     clear hq
     go_wp2_with (go_at_call 47; (with_reducible refine HK.out.mono ?_); rintro e w5 ⟨rfl, hb5⟩; have d5 : w5.cell? ⟨wr.heap.size, 0, none⟩ = some (.int .i64 12) := (K4.out.below hb5 K4.out.lt).cell 0; have F5 := Lib.hid (F4.out.next hb5); clear hb5)
     rw [Exit.noGoto_ret]
     go_ret
     exact ⟨by rw [HE.out]; rfl, F5.out.below⟩
    | false =>
     rw [hq] at HK
     have HQ := Lib.hid hq
     clear hq
     go_wp2_with (go_at_call 47; (with_reducible refine HK.out.mono ?_); rintro e w5 ⟨rfl, hb5⟩; have F5 := Lib.hid (F4.out.next hb5); clear hb5)
     go_roundw
     case rel => exact ⟨3, by decide, by decide, rfl, rfl, F5.out, fun j hj => by
      by_cases hj2 : j = 2
      ·
       rw [hj2]; exact HQ.out
      ·
       exact HNO.out j (by omega)⟩
     case measure => simp [intOf]
   ·
    have d0 : wr.cell? ⟨S + 1, 6, none⟩ = some (.int .i64 12) := c0 6
    have d1 : wr.cell? ⟨S + 1, 7, none⟩ = some (.func (.func 48) #[] #[.pointer (some ⟨S, 0, none⟩)]) := c0 7
    have f4 : FlS h v w S (S + 1) (wr.alloc (.cells #[.int .i64 12, .func (.func 48) #[] #[.pointer (some ⟨S, 0, none⟩)]] 72)) := HF.out.next ((Below.refl _ _).alloc (Nat.le_refl _) _)
    have hk4 : Blk (wr.alloc (.cells #[.int .i64 12, .func (.func 48) #[] #[.pointer (some ⟨S, 0, none⟩)]] 72)) wr.heap.size 72 #[.int .i64 12, .func (.func 48) #[] #[.pointer (some ⟨S, 0, none⟩)]] := Blk.new wr _ _
    have HK := Lib.hid (flaw4 h v _ S f4.hd hr f4.rd)
    have F4 := Lib.hid f4
    have K4 := Lib.hid hk4
    unfold ptr at HK
    clear c0 f4 hk4 HF
    cases hq : flawB h 3 with
    | true =>
     have HE := Lib.hid (checkH_3 h HNO.out hq)
     rw [hq] at HK
     clear hq
     go_wp2_with (go_at_call 48; (with_reducible refine HK.out.mono ?_); rintro e w5 ⟨rfl, hb5⟩; have d5 : w5.cell? ⟨wr.heap.size, 0, none⟩ = some (.int .i64 12) := (K4.out.below hb5 K4.out.lt).cell 0; have F5 := Lib.hid (F4.out.next hb5); clear hb5)
     rw [Exit.noGoto_ret]
     go_ret
     exact ⟨by rw [HE.out]; rfl, F5.out.below⟩
    | false =>
     rw [hq] at HK
     have HQ := Lib.hid hq
     clear hq
     go_wp2_with (go_at_call 48; (with_reducible refine HK.out.mono ?_); rintro e w5 ⟨rfl, hb5⟩; have F5 := Lib.hid (F4.out.next hb5); clear hb5)
     go_roundw
     case rel => exact ⟨4, by decide, by decide, rfl, rfl, F5.out, fun j hj => by
      by_cases hj2 : j = 3
      ·
       rw [hj2]; exact HQ.out
      ·
       exact HNO.out j (by omega)⟩
     case measure => simp [intOf]
   ·
    have d0 : wr.cell? ⟨S + 1, 8, none⟩ = some (.int .i64 9) := c0 8
    have d1 : wr.cell? ⟨S + 1, 9, none⟩ = some (.func (.func 49) #[] #[.pointer (some ⟨S, 0, none⟩)]) := c0 9
    have f4 : FlS h v w S (S + 1) (wr.alloc (.cells #[.int .i64 9, .func (.func 49) #[] #[.pointer (some ⟨S, 0, none⟩)]] 72)) := HF.out.next ((Below.refl _ _).alloc (Nat.le_refl _) _)
    have hk4 : Blk (wr.alloc (.cells #[.int .i64 9, .func (.func 49) #[] #[.pointer (some ⟨S, 0, none⟩)]] 72)) wr.heap.size 72 #[.int .i64 9, .func (.func 49) #[] #[.pointer (some ⟨S, 0, none⟩)]] := Blk.new wr _ _
    have HK := Lib.hid (flaw5 h v _ S f4.t.2 f4.hd hr hs)
    have F4 := Lib.hid f4
    have K4 := Lib.hid hk4
    unfold ptr at HK
    clear c0 f4 hk4 HF
    cases hq : flawB h 4 with
    | true =>
     have HE := Lib.hid (checkH_4 h HNO.out hq)
     rw [hq] at HK
     clear hq
     go_wp2_with (go_at_call 49; (with_reducible refine HK.out.mono ?_); rintro e w5 ⟨rfl, hb5⟩; have d5 : w5.cell? ⟨wr.heap.size, 0, none⟩ = some (.int .i64 9) := (K4.out.below hb5 K4.out.lt).cell 0; have F5 := Lib.hid (F4.out.next hb5); clear hb5)
     rw [Exit.noGoto_ret]
     go_ret
     exact ⟨by rw [HE.out]; rfl, F5.out.below⟩
    | false =>
     rw [hq] at HK
     have HQ := Lib.hid hq
     clear hq
     go_wp2_with (go_at_call 49; (with_reducible refine HK.out.mono ?_); rintro e w5 ⟨rfl, hb5⟩; have F5 := Lib.hid (F4.out.next hb5); clear hb5)
     go_roundw
     case rel => exact ⟨5, by decide, by decide, rfl, rfl, F5.out, fun j hj => by
      by_cases hj2 : j = 4
      ·
       rw [hj2]; exact HQ.out
      ·
       exact HNO.out j (by omega)⟩
     case measure => simp [intOf]
   ·
    have d0 : wr.cell? ⟨S + 1, 10, none⟩ = some (.int .i64 5) := c0 10
    have d1 : wr.cell? ⟨S + 1, 11, none⟩ = some (.func (.func 51) #[] #[.pointer (some ⟨S, 0, none⟩)]) := c0 11
    have f4 : FlS h v w S (S + 1) (wr.alloc (.cells #[.int .i64 5, .func (.func 51) #[] #[.pointer (some ⟨S, 0, none⟩)]] 72)) := HF.out.next ((Below.refl _ _).alloc (Nat.le_refl _) _)
    have hk4 : Blk (wr.alloc (.cells #[.int .i64 5, .func (.func 51) #[] #[.pointer (some ⟨S, 0, none⟩)]] 72)) wr.heap.size 72 #[.int .i64 5, .func (.func 51) #[] #[.pointer (some ⟨S, 0, none⟩)]] := Blk.new wr _ _
    have HK := Lib.hid (flaw6 h v _ S f4.hd hr)
    have F4 := Lib.hid f4
    have K4 := Lib.hid hk4
    unfold ptr at HK
    clear c0 f4 hk4 HF
    cases hq : flawB h 5 with
    | true =>
     have HE := Lib.hid (checkH_5 h HNO.out hq)
     rw [hq] at HK
     clear hq
     go_wp2_with (go_at_call 51; (with_reducible refine HK.out.mono ?_); rintro e w5 ⟨rfl, hb5⟩; have d5 : w5.cell? ⟨wr.heap.size, 0, none⟩ = some (.int .i64 5) := (K4.out.below hb5 K4.out.lt).cell 0; have F5 := Lib.hid (F4.out.next hb5); clear hb5)
     rw [Exit.noGoto_ret]
     go_ret
     exact ⟨by rw [HE.out]; rfl, F5.out.below⟩
    | false =>
     rw [hq] at HK
     have HQ := Lib.hid hq
     clear hq
     go_wp2_with (go_at_call 51; (with_reducible refine HK.out.mono ?_); rintro e w5 ⟨rfl, hb5⟩; have F5 := Lib.hid (F4.out.next hb5); clear hb5)
     go_roundw
     case rel => exact ⟨6, by decide, by decide, rfl, rfl, F5.out, fun j hj => by
      by_cases hj2 : j = 5
      ·
       rw [hj2]; exact HQ.out
      ·
       exact HNO.out j (by omega)⟩
     case measure => simp [intOf]
   ·
    have d0 : wr.cell? ⟨S + 1, 12, none⟩ = some (.int .i64 5) := c0 12
    have d1 : wr.cell? ⟨S + 1, 13, none⟩ = some (.func (.func 52) #[] #[.pointer (some ⟨S, 0, none⟩)]) := c0 13
    have f4 : FlS h v w S (S + 1) (wr.alloc (.cells #[.int .i64 5, .func (.func 52) #[] #[.pointer (some ⟨S, 0, none⟩)]] 72)) := HF.out.next ((Below.refl _ _).alloc (Nat.le_refl _) _)
    have hk4 : Blk (wr.alloc (.cells #[.int .i64 5, .func (.func 52) #[] #[.pointer (some ⟨S, 0, none⟩)]] 72)) wr.heap.size 72 #[.int .i64 5, .func (.func 52) #[] #[.pointer (some ⟨S, 0, none⟩)]] := Blk.new wr _ _
    have HK := Lib.hid (flaw7 h v _ S f4.hd hr)
    have F4 := Lib.hid f4
    have K4 := Lib.hid hk4
    unfold ptr at HK
    clear c0 f4 hk4 HF
    cases hq : flawB h 6 with
    | true =>
     have HE := Lib.hid (checkH_6 h HNO.out hq)
     rw [hq] at HK
     clear hq
     go_wp2_with (go_at_call 52; (with_reducible refine HK.out.mono ?_); rintro e w5 ⟨rfl, hb5⟩; have d5 : w5.cell? ⟨wr.heap.size, 0, none⟩ = some (.int .i64 5) := (K4.out.below hb5 K4.out.lt).cell 0; have F5 := Lib.hid (F4.out.next hb5); clear hb5)
     rw [Exit.noGoto_ret]
     go_ret
     exact ⟨by rw [HE.out]; rfl, F5.out.below⟩
    | false =>
     rw [hq] at HK
     have HQ := Lib.hid hq
     clear hq
     go_wp2_with (go_at_call 52; (with_reducible refine HK.out.mono ?_); rintro e w5 ⟨rfl, hb5⟩; have F5 := Lib.hid (F4.out.next hb5); clear hb5)
     go_roundw
     case rel => exact ⟨7, by decide, by decide, rfl, rfl, F5.out, fun j hj => by
      by_cases hj2 : j = 6
      ·
       rw [hj2]; exact HQ.out
      ·
       exact HNO.out j (by omega)⟩
     case measure => simp [intOf]
   ·
    have d0 : wr.cell? ⟨S + 1, 14, none⟩ = some (.int .i64 5) := c0 14
    have d1 : wr.cell? ⟨S + 1, 15, none⟩ = some (.func (.func 53) #[] #[.pointer (some ⟨S, 0, none⟩)]) := c0 15
    have f4 : FlS h v w S (S + 1) (wr.alloc (.cells #[.int .i64 5, .func (.func 53) #[] #[.pointer (some ⟨S, 0, none⟩)]] 72)) := HF.out.next ((Below.refl _ _).alloc (Nat.le_refl _) _)
    have hk4 : Blk (wr.alloc (.cells #[.int .i64 5, .func (.func 53) #[] #[.pointer (some ⟨S, 0, none⟩)]] 72)) wr.heap.size 72 #[.int .i64 5, .func (.func 53) #[] #[.pointer (some ⟨S, 0, none⟩)]] := Blk.new wr _ _
    have HK := Lib.hid (flaw8 h v _ S f4.hd hr)
    have F4 := Lib.hid f4
    have K4 := Lib.hid hk4
    unfold ptr at HK
    clear c0 f4 hk4 HF
    cases hq : flawB h 7 with
    | true =>
     have HE := Lib.hid (checkH_7 h HNO.out hq)
     rw [hq] at HK
     clear hq
     go_wp2_with (go_at_call 53; (with_reducible refine HK.out.mono ?_); rintro e w5 ⟨rfl, hb5⟩; have d5 : w5.cell? ⟨wr.heap.size, 0, none⟩ = some (.int .i64 5) := (K4.out.below hb5 K4.out.lt).cell 0; have F5 := Lib.hid (F4.out.next hb5); clear hb5)
     rw [Exit.noGoto_ret]
     go_ret
     exact ⟨by rw [HE.out]; rfl, F5.out.below⟩
    | false =>
     rw [hq] at HK
     have HQ := Lib.hid hq
     clear hq
     go_wp2_with (go_at_call 53; (with_reducible refine HK.out.mono ?_); rintro e w5 ⟨rfl, hb5⟩; have F5 := Lib.hid (F4.out.next hb5); clear hb5)
     go_roundw
     case rel => exact ⟨8, by decide, by decide, rfl, rfl, F5.out, fun j hj => by
      by_cases hj2 : j = 7
      ·
       rw [hj2]; exact HQ.out
      ·
       exact HNO.out j (by omega)⟩
     case measure => simp [intOf]
  ·
   obtain rfl : k = 8 := by omega
   have HE := Lib.hid (checkH_none h HNO.out)
   clear hlt c0
   go_wp2_with fail
   try rw [Exit.noGoto_ret]
   go_ret
   exact ⟨by rw [HE.out]; rfl, HF.out.below⟩
end Go.Proofs.YtpeneeddfgmjpaaGreatDoor.hdr
