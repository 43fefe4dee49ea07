/-
  petrelref09.Check.
-/
import Derived.Test.YtbfjljbllfjicaaOpenms
import Derived.Deep.CutRange
import Derived.Deep.CutBlock
namespace Go.Proofs.Ytbfjljbllfjicaa.msg
open Go.RowKit Go.Proofs.Ytbfjljbllfjicaa.mem Go.Proofs.Ytbfjljbllfjicaa.sha Go.Proofs.Ytbfjljbllfjicaa.ids
open Go.Proofs.Ytbfjljbllfjicaa.opn (b1 b2 b4 num txt idl byte rd rdN rdT rdI rdS rdL St Reads Stays endE zid mkId)

set_option maxHeartbeats 4000000 in
set_option maxRecDepth 100000 in
theorem check_any (m : Mg) (v : Value) (w : World) (hv : RdV w v m.ids) (hb : m.body.length ≤ 140737488351232) :
    Calls Try.prog 11 #[mgv m v] w fun e w' => e = .returned (.int .i64 (checkM m)) ∧ Below w.heap.size w w' := by
  obtain ⟨w1, hw1⟩ : ∃ u, u = w.alloc (.cells #[.int .i64 m.k, v, .string (oct.tx m.body)] 24) := ⟨_, rfl⟩
  obtain ⟨S, hS⟩ : ∃ S, S = w.heap.size := ⟨_, rfl⟩
  have hX : Blk w1 S 24 #[.int .i64 m.k, v, .string (oct.tx m.body)] := by rw [hw1, hS]; exact Blk.new w _ _
  have hB : Below w.heap.size w w1 := by rw [hw1]; exact (Below.refl _ _).alloc (Nat.le_refl _) _
  have hv1 := hv.next hB
  have HX := Lib.hid hX
  have HB := Lib.hid hB
  have HS := Lib.hid hS
  have HW := Lib.hid hw1
  have HV := Lib.hid hv1
  obtain ⟨ad, cap, hvf⟩ := hv1.form
  have c0 := (MgBlk.of hX).k
  have c1 := (MgBlk.of hX).ids
  have c2 := (MgBlk.of hX).body
  obtain ⟨ln, hln⟩ : ∃ n, n = m.ids.length := ⟨_, rfl⟩
  rw [hvf, ← hln] at c1
  have HLN := Lib.hid hln
  obtain ⟨bs, hbs⟩ : ∃ b, b = oct.tx m.body := ⟨_, rfl⟩
  have hbE : bs.toList.isEmpty = decide (m.body = []) := by rw [hbs]; exact tx_isEmpty _
  have hbS : bs.size = m.body.length := by rw [hbs, oct.tx_size]
  have hbz : (bs.size : Int) ≤ 140737488351232 := by rw [hbS]; omega
  rw [← hbs] at c2
  obtain ⟨k, hk⟩ : ∃ k, k = m.k := ⟨_, rfl⟩
  rw [← hk] at c0
  have HK := Lib.hid hk
  have HBS := Lib.hid hbS
  have HBE := Lib.hid hbE
  have HKIND := Lib.hid (fun u => kind_any k u)
  have HCK : Hid (checkM m = if kindM k = 0 then 10 else if badForm m then 4 else if 16 < m.ids.length then 6 else if badLong m then 3 else if kindM k = 2 ∧ m.body = [] then 4 else 0) := Lib.hid (by rw [hk]; rfl)
  have HBF : Hid (badForm m ↔ (kindM k = 1 ∧ m.body ≠ []) ∨ (kindM k = 2 ∧ m.ids ≠ [])) := Lib.hid (by rw [hk]; rfl)
  have HBL : Hid (badLong m ↔ (k = 3 ∧ 256 < m.body.length) ∨ (k = 8 ∧ 512 < m.body.length)) := Lib.hid (by rw [hk]; rfl)
  have hkc := kindM_cases k
  obtain ⟨kk, hkk⟩ : ∃ x, x = kindM k := ⟨_, rfl⟩
  rw [← hkk] at HKIND HCK HBF hkc
  clear hX hB hv1 hS hw1 hv hb hvf hln hbs hk hbE hbS hkk
  unfold mgv
  rcases hkc with ⟨e1, hk1⟩ | ⟨e1, hk1⟩ | ⟨e1, -⟩
  · subst e1
    have hk3 : (k == 3) = false := beq_eq_false_iff_ne.2 (by omega)
    have hk8 : (k == 8) = false := beq_eq_false_iff_ne.2 (by omega)
    by_cases hb0 : m.body = []
    · have hE : bs.toList.isEmpty = true := by rw [HBE.out]; exact decide_eq_true hb0
      have HF : Hid (¬ badForm m) := Lib.hid (fun h => by rcases HBF.out.1 h with ⟨_, h⟩ | ⟨h, _⟩; exact h hb0; cases h)
      by_cases hl : 16 < m.ids.length
      · have hl2 : (16 : Int) < (ln : Int) := by rw [HLN.out]; omega
        have HE : Hid (checkM m = 6) := Lib.hid (by rw [HCK.out, if_neg (by decide), if_neg HF.out, if_pos hl])
        clear hl hb0 hk1
        go_enter Try.func11, Try.ntmps11
        go_upto_region 1 with fail
        refine wp_at HW.out.symm ?_
        rw [← HS.out]
        clear HW
        go_wp2_with (go_at_call 25; (with_reducible refine (HKIND.out _).mono ?_); rintro e w2 ⟨rfl, rfl⟩)
        go_ret
        exact ⟨by rw [HE.out]; rfl, HB.out⟩
      · have hl2 : (ln : Int) ≤ 16 := by rw [HLN.out]; omega
        have HE : Hid (checkM m = 0) := Lib.hid (by rw [HCK.out, if_neg (by decide), if_neg HF.out, if_neg hl, if_neg (fun h => by rcases HBL.out.1 h with ⟨h, _⟩ | ⟨h, _⟩ <;> omega), if_neg (fun h => absurd h.1 (by decide))])
        clear hl hb0 hk1
        go_enter Try.func11, Try.ntmps11
        go_upto_region 1 with fail
        refine wp_at HW.out.symm ?_
        rw [← HS.out]
        clear HW
        go_wp2_with (go_at_call 25; (with_reducible refine (HKIND.out _).mono ?_); rintro e w2 ⟨rfl, rfl⟩)
        go_ret
        exact ⟨by rw [HE.out]; rfl, HB.out⟩
    · have hE : bs.toList.isEmpty = false := by rw [HBE.out]; exact decide_eq_false hb0
      have HE : Hid (checkM m = 4) := Lib.hid (by rw [HCK.out, if_neg (by decide), if_pos (HBF.out.2 (.inl ⟨rfl, hb0⟩))])
      clear hb0 hk1
      go_enter Try.func11, Try.ntmps11
      go_upto_region 1 with fail
      refine wp_at HW.out.symm ?_
      rw [← HS.out]
      clear HW
      go_wp2_with (go_at_call 25; (with_reducible refine (HKIND.out _).mono ?_); rintro e w2 ⟨rfl, rfl⟩)
      go_ret
      exact ⟨by rw [HE.out]; rfl, HB.out⟩
  · subst e1
    by_cases hi0 : m.ids = []
    · have hl0 : ln = 0 := by rw [HLN.out, hi0]; rfl
      subst hl0
      have HF : Hid (¬ badForm m) := Lib.hid (fun h => by rcases HBF.out.1 h with ⟨h, _⟩ | ⟨_, h⟩; cases h; exact h hi0)
      have HL16 : Hid (¬ 16 < m.ids.length) := Lib.hid (by rw [hi0]; decide)
      clear hi0
      by_cases hlong : badLong m
      · have HE : Hid (checkM m = 3) := Lib.hid (by rw [HCK.out, if_neg (by decide), if_neg HF.out, if_neg HL16.out, if_pos hlong])
        rcases HBL.out.1 hlong with ⟨rfl, hl⟩ | ⟨rfl, hl⟩
        · have hl2 : (256 : Int) < (bs.size : Int) := by rw [HBS.out]; omega
          clear hl hlong hk1
          go_enter Try.func11, Try.ntmps11
          go_upto_region 1 with fail
          refine wp_at HW.out.symm ?_
          rw [← HS.out]
          clear HW
          go_wp2_with (go_at_call 25; (with_reducible refine (HKIND.out _).mono ?_); rintro e w2 ⟨rfl, rfl⟩)
          go_ret
          exact ⟨by rw [HE.out]; rfl, HB.out⟩
        · have hl2 : (512 : Int) < (bs.size : Int) := by rw [HBS.out]; omega
          clear hl hlong hk1
          go_enter Try.func11, Try.ntmps11
          go_upto_region 1 with fail
          refine wp_at HW.out.symm ?_
          rw [← HS.out]
          clear HW
          go_wp2_with (go_at_call 25; (with_reducible refine (HKIND.out _).mono ?_); rintro e w2 ⟨rfl, rfl⟩)
          go_ret
          exact ⟨by rw [HE.out]; rfl, HB.out⟩
      · have HL2 : Hid (¬ badLong m) := Lib.hid hlong
        have hlen : (k = 3 → (bs.size : Int) ≤ 256) ∧ (k = 8 → (bs.size : Int) ≤ 512) := ⟨fun h => by have h3 : m.body.length ≤ 256 := Nat.le_of_not_lt fun h2 => hlong (HBL.out.2 (.inl ⟨h, h2⟩)); rw [HBS.out]; omega, fun h => by have h3 : m.body.length ≤ 512 := Nat.le_of_not_lt fun h2 => hlong (HBL.out.2 (.inr ⟨h, h2⟩)); rw [HBS.out]; omega⟩
        clear hlong
        by_cases hb0 : m.body = []
        · have hE : bs.toList.isEmpty = true := by rw [HBE.out]; exact decide_eq_true hb0
          have HE : Hid (checkM m = 4) := Lib.hid (by rw [HCK.out, if_neg (by decide), if_neg HF.out, if_neg HL16.out, if_neg HL2.out, if_pos ⟨rfl, hb0⟩])
          clear hb0
          rcases hk1 with rfl | rfl
          · have hl2 := hlen.1 rfl
            clear hlen
            go_enter Try.func11, Try.ntmps11
            go_upto_region 1 with fail
            refine wp_at HW.out.symm ?_
            rw [← HS.out]
            clear HW
            go_wp2_with (go_at_call 25; (with_reducible refine (HKIND.out _).mono ?_); rintro e w2 ⟨rfl, rfl⟩)
            go_ret
            exact ⟨by rw [HE.out]; rfl, HB.out⟩
          · have hl2 := hlen.2 rfl
            clear hlen
            go_enter Try.func11, Try.ntmps11
            go_upto_region 1 with fail
            refine wp_at HW.out.symm ?_
            rw [← HS.out]
            clear HW
            go_wp2_with (go_at_call 25; (with_reducible refine (HKIND.out _).mono ?_); rintro e w2 ⟨rfl, rfl⟩)
            go_ret
            exact ⟨by rw [HE.out]; rfl, HB.out⟩
        · have hE : bs.toList.isEmpty = false := by rw [HBE.out]; exact decide_eq_false hb0
          have HE : Hid (checkM m = 0) := Lib.hid (by rw [HCK.out, if_neg (by decide), if_neg HF.out, if_neg HL16.out, if_neg HL2.out, if_neg (fun h => hb0 h.2)])
          clear hb0
          rcases hk1 with rfl | rfl
          · have hl2 := hlen.1 rfl
            clear hlen
            go_enter Try.func11, Try.ntmps11
            go_upto_region 1 with fail
            refine wp_at HW.out.symm ?_
            rw [← HS.out]
            clear HW
            go_wp2_with (go_at_call 25; (with_reducible refine (HKIND.out _).mono ?_); rintro e w2 ⟨rfl, rfl⟩)
            go_ret
            exact ⟨by rw [HE.out]; rfl, HB.out⟩
          · have hl2 := hlen.2 rfl
            clear hlen
            go_enter Try.func11, Try.ntmps11
            go_upto_region 1 with fail
            refine wp_at HW.out.symm ?_
            rw [← HS.out]
            clear HW
            go_wp2_with (go_at_call 25; (with_reducible refine (HKIND.out _).mono ?_); rintro e w2 ⟨rfl, rfl⟩)
            go_ret
            exact ⟨by rw [HE.out]; rfl, HB.out⟩
    · have hl2 : 0 < ln := by rw [HLN.out]; exact List.length_pos_iff.2 hi0
      have HE : Hid (checkM m = 4) := Lib.hid (by rw [HCK.out, if_neg (by decide), if_pos (HBF.out.2 (.inr ⟨rfl, hi0⟩))])
      clear hi0 hk1
      go_enter Try.func11, Try.ntmps11
      go_upto_region 1 with fail
      refine wp_at HW.out.symm ?_
      rw [← HS.out]
      clear HW
      go_wp2_with (go_at_call 25; (with_reducible refine (HKIND.out _).mono ?_); rintro e w2 ⟨rfl, rfl⟩)
      go_ret
      exact ⟨by rw [HE.out]; rfl, HB.out⟩
  · subst e1
    have HE : Hid (checkM m = 10) := Lib.hid (by rw [HCK.out, if_pos rfl])
    go_enter Try.func11, Try.ntmps11
    go_upto_region 1 with fail
    refine wp_at HW.out.symm ?_
    rw [← HS.out]
    clear HW
    go_wp2_with (go_at_call 25; (with_reducible refine (HKIND.out _).mono ?_); rintro e w2 ⟨rfl, rfl⟩)
    go_ret
    exact ⟨by rw [HE.out]; rfl, HB.out⟩
end Go.Proofs.Ytbfjljbllfjicaa.msg
