/-
  The walk of BlockPlays, by what block's functions answer.
-/
import Derived.Test.YtgehhadnjllkdaaBkpb
import Derived.Test.YtgehhadnjllkdaaBkpc
import Derived.Deep.CutRange
import Derived.Deep.CutBlock
import Derived.Deep.RegionHeld3
namespace Go.Proofs.Ytgehhadnjllkdaa.bk
open Go.RowKit Go.Proofs.Ytgehhadnjllkdaa.mem Go.Proofs.Ytgehhadnjllkdaa.sha Go.Proofs.Ytgehhadnjllkdaa.strx

section
variable {T : World → Prop} {Bk : (Nat → Prop) → World → Value → List UInt8 → Nat → Prop}
set_option maxHeartbeats 4000000 in
set_option maxRecDepth 100000 in
theorem plays_walk (hI : BkIs T Bk) (ad : Option Addr) (n cap : Nat) (K N : Nat → Int) (S : Nat → ByteArray) (w : World) (hl : n ≤ 9223372036854775807) (hT : T w) (hA : Acts w ad n K N S) :
    Calls Try.prog 3 #[.slice ad n cap] w fun e w' => e = .returned (.bool true) ∧ Below w.heap.size w w' := by
  have HI := Lib.hid hI
  have HT := Lib.hid hT
  clear hI hT
  go_enter Try.func3, Try.ntmps3
  go_wp2_with (go_at_call 6; (with_reducible refine (HI.out.new _ HT.out).mono ?_); rintro e w1 ⟨p, rfl, hk1, hb1⟩; have HP := Lib.hid (PB.start HI.out HT.out hk1 hb1); clear hk1 hb1)
  obtain ⟨X, hX⟩ : ∃ X, X = w1.heap.size := ⟨_, rfl⟩
  obtain ⟨G, hG⟩ : ∃ G : Nat → Prop, G = fun j => w.heap.size ≤ j ∧ j ≠ w1.heap.size := ⟨_, rfl⟩
  rw [← hG, ← hX] at HP
  obtain ⟨w2, hw2⟩ : ∃ w2 : World, w2 = w1.alloc (.cells #[.string ⟨#[]⟩, .int .i64 0] 27) := ⟨_, rfl⟩
  rw [← hw2] at HP
  rw [← hX, ← hw2]
  clear hG hX hw2
  go_loopg [5] 61 (fun gk s5 wr => ∃ (k : Nat) (s : List UInt8) (m : Nat), s5 = .int .i64 k ∧ k ≤ n ∧ k ≤ 60 ∧ 61 - k ≤ gk ∧ s.length ≤ 500 * k ∧ m ≤ s.length ∧ Hid (PB T Bk w G X p s m s m wr))
  case atStart => exact ⟨0, [], 0, rfl, Nat.zero_le _, Nat.zero_le _, by omega, Nat.le_refl _, Nat.le_refl _, HP⟩
  case round =>
    obtain ⟨k, s, m, rfl, hk, hk60, hgk, hs, hm, HP2⟩ := hrel
    clear HP
    by_cases hlt : k < n ∧ k < 60
    · obtain ⟨hkn, hk2⟩ := hlt
      obtain ⟨b, off, rfl, hbl, a0, a1, a2⟩ := hA k hkn
      have hbk := HP2.out.below
      replace a0 := (hbk.cell hbl).trans a0
      replace a1 := (hbk.cell hbl).trans a1
      replace a2 := (hbk.cell hbl).trans a2
      have i0 : (0 : Int) ≤ (k : Int) := Int.natCast_nonneg _
      have i1 : (k : Int) < (n : Int) := by omega
      have i2 : (k : Int) < 60 := by omega
      clear hbk
      by_cases hsz : (500 : Int) < ((S k).size : Int)
      · go_wp2_with fail
        go_roundg (60 - k)
        case measure => omega
        case rel => exact ⟨k + 1, s, m, by go_num, hkn, hk2, by omega, by omega, hm, Lib.hid (HP2.out.next HI.out ((Below.refl _ _).alloc (Nat.le_refl _) _))⟩
      · go_upto_block 2 with fail
        have hPA := PA.start HI.out HP2.out (K k) (N k) (S k)
        obtain ⟨wA, hwA⟩ : ∃ wA : World, wA = wr.alloc (.cells #[.int .i64 (K k), .int .i64 (N k), .string (S k)] 29) := ⟨_, rfl⟩
        rw [← hwA] at hPA
        rw [← hwA]
        obtain ⟨A, hAe⟩ : ∃ A, A = wr.heap.size := ⟨_, rfl⟩
        obtain ⟨G2, hG2⟩ : ∃ G2 : Nat → Prop, G2 = fun j => G j ∧ j ≠ wr.heap.size := ⟨_, rfl⟩
        rw [← hG2, ← hAe] at hPA
        rw [← hAe]
        have HST : Hid (∀ s' m' wx, PA T Bk w G2 X A (K k) (N k) (S k) p s' m' s' m' wx → PB T Bk w G X p s' m' s' m' wx) := Lib.hid fun s' m' wx h => by
          rw [hG2] at h
          exact PA.stop HI.out HP2.out h
        obtain ⟨kk, hkk⟩ : ∃ z, z = K k := ⟨_, rfl⟩
        obtain ⟨nn, hnn⟩ : ∃ z, z = N k := ⟨_, rfl⟩
        obtain ⟨zz, hzz⟩ : ∃ z, z = S k := ⟨_, rfl⟩
        rw [← hkk, ← hnn, ← hzz] at hPA HST
        rw [← hkk, ← hnn, ← hzz]
        rw [← hzz] at hsz
        have HPA := Lib.hid hPA
        obtain ⟨t, ht⟩ : ∃ t, t = bt s := ⟨_, rfl⟩
        have ht0 := bt_size s
        rw [← ht] at ht0
        have x0 : wA.cell? ⟨X, 0, none⟩ = some (.string t) := by rw [ht]; exact hPA.pb.cellX.1
        have x1 := hPA.pb.cellX.2.1
        have f0 := hPA.pb.cellX.2.2.1
        have f1 := hPA.pb.cellX.2.2.2
        obtain ⟨c0, c1, c2⟩ := hPA.cells
        have t0 : (0 : Int) ≤ (t.size : Int) := Int.natCast_nonneg _
        have t1 : (t.size : Int) ≤ 30000 := by omega
        have z0 : (0 : Int) ≤ (zz.size : Int) := Int.natCast_nonneg _
        have m0 : (0 : Int) ≤ (m : Int) := Int.natCast_nonneg _
        have m1 : (m : Int) ≤ (t.size : Int) := by omega
        have wm : IntKind.i64.wrap ((t.size : Int) - (m : Int)) = (t.size : Int) - (m : Int) := by rw [IntKind.wrap_i64]; omega
        have tz : ¬ 9223372036854775807 < t.size + zz.size := by omega
        have HTT := Lib.hid ht
        have HT0 := Lib.hid ht0
        clear hwA hAe hG2 hkk hnn hzz hPA ht ht0 a0 a1 a2
        go_cut [7] from 11 to 129 (fun s7 wx => s7 = .bool true ∧ ∃ s' m', s'.length ≤ 500 * (k + 1) ∧ m' ≤ s'.length ∧ Hid (PB T Bk w G X p s' m' s' m' wx))
        case first =>
          by_cases h0 : kk = 0
          · have d0 : (kk == 0) = true := by simpa using h0
            have q1 : (kk == 1) = false := by rw [h0]; rfl
            clear h0
            go_wp2_with (go_at_call 7; (with_reducible refine (HI.out.write G2 p s m zz _ HPA.out.pb.t HPA.out.pb.n HPA.out.pb.b (by omega)).mono ?_); rintro e wB ⟨rfl, hbB, htB⟩; have HPB := Lib.hid (HPA.out.ofB HI.out HT.out hbB htB); clear hbB htB; have y0 : wB.cell? ⟨X, 0, none⟩ = some (.string t) := (by rw [HTT.out]; exact HPB.out.pb.cellX.1); have g0 := HPB.out.pb.cellX.2.2.1; have d2 := HPB.out.cells.2.2)
            go_region
            go_wp2_with fail
            go_meet
            refine ⟨rfl, s ++ zz.data.toList, m, by rw [List.length_append]; have := strx.size_list zz; omega, by rw [List.length_append]; omega, Lib.hid (HST.out _ _ _ ?_)⟩
            refine HPB.out.ofX HI.out HT.out ?_ (((Turn.refl (· = X) wB).setCell rfl _).drew)
            have := Blk.set_ HPB.out.pb.x 0 (.string (t ++ zz))
            unfold XBlk
            rw [← bt_append, bt_of, ← HTT.out]
            exact this
          by_cases h1 : kk = 1
          · have d0 : (kk == 0) = false := by simpa using h0
            have d1' : (kk == 1) = true := by simpa using h1
            clear h0 h1
            go_wp2_with (go_at_call 7; (with_reducible refine (HI.out.write G2 p s m zz _ HPA.out.pb.t HPA.out.pb.n HPA.out.pb.b (by omega)).mono ?_); rintro e wB ⟨rfl, hbB, htB⟩; have HPB := Lib.hid (HPA.out.ofB HI.out HT.out hbB htB); clear hbB htB; have y0 : wB.cell? ⟨X, 0, none⟩ = some (.string t) := (by rw [HTT.out]; exact HPB.out.pb.cellX.1); have g0 := HPB.out.pb.cellX.2.2.1; have d2 := HPB.out.cells.2.2)
            go_region
            go_wp2_with fail
            go_meet
            refine ⟨rfl, s ++ zz.data.toList, m, by rw [List.length_append]; have := strx.size_list zz; omega, by rw [List.length_append]; omega, Lib.hid (HST.out _ _ _ ?_)⟩
            refine HPB.out.ofX HI.out HT.out ?_ (((Turn.refl (· = X) wB).setCell rfl _).drew)
            have := Blk.set_ HPB.out.pb.x 0 (.string (t ++ zz))
            unfold XBlk
            rw [← bt_append, bt_of, ← HTT.out]
            exact this
          have d0 : (kk == 0) = false := by simpa using h0
          have d1' : (kk == 1) = false := by simpa using h1
          clear h0 h1
          by_cases h2 : kk = 2
          · have d2' : (kk == 2) = true := by simpa using h2
            clear h2
            have HPD := Lib.hid (HPA.out.drew HI.out)
            go_upto_region 16 with fail
            refine wp_region_held_drew (S := (fun w' => w'.cell? ⟨X, 0, none⟩ = some (.string t) ∧ w'.cell? ⟨X, 1, none⟩ = some (.int .i64 (m : Int)))) (by kernel_rfl) ?_ (fun hHeld => ?_)
            · exact ⟨x0, x1⟩
            refine' wpAnyH_take (i := 0) ?hisy0 (by kernel_rfl) (by kernel_rfl) (by kernel_rfl) ?hqsy0 (Or.inl ⟨?hwsy0, ?hysy0⟩) (by assumption) ?hrsy0
            case hisy0 => (simp only [List.getElem?_toArray, List.getElem?_cons_succ, List.getElem?_cons_zero]; rfl)
            case hqsy0 => exact fun _ _ _ h => h
            case hwsy0 => rfl
            case hysy0 => (intro w0 hSw; (try dsimp only at hSw); go_simp; try with_reducible rfl)
            (try simp only [Act.put, List.setIfInBounds_toArray, List.set_cons_zero, List.set_cons_succ])
            refine' wpAnyH_take (i := 2) ?hisy2 (by kernel_rfl) (by kernel_rfl) (by kernel_rfl) ?hqsy2 (Or.inl ⟨?hwsy2, ?hysy2⟩) (by assumption) ?hrsy2
            case hisy2 => (simp only [List.getElem?_toArray, List.getElem?_cons_succ, List.getElem?_cons_zero]; rfl)
            case hqsy2 => exact fun _ _ _ h => h
            case hwsy2 => rfl
            case hysy2 => (intro w0 hSw; (try dsimp only at hSw); go_simp; try with_reducible rfl)
            (try simp only [Act.put, List.setIfInBounds_toArray, List.set_cons_zero, List.set_cons_succ])
            refine' wpAnyH_take (i := 3) ?hisy3 (by kernel_rfl) (by kernel_rfl) (by kernel_rfl) ?hqsy3 (Or.inl ⟨?hwsy3, ?hysy3⟩) (by assumption) ?hrsy3
            case hisy3 => (simp only [List.getElem?_toArray, List.getElem?_cons_succ, List.getElem?_cons_zero]; rfl)
            case hqsy3 => exact fun _ _ _ h => h
            case hwsy3 => rfl
            case hysy3 => (intro w0 hSw; (try dsimp only at hSw); go_simp; try with_reducible rfl)
            (try simp only [Act.put, List.setIfInBounds_toArray, List.set_cons_zero, List.set_cons_succ])
            refine' wpAnyH_take (i := 4) ?hisy4 (by kernel_rfl) (by kernel_rfl) (by kernel_rfl) ?hqsy4 (Or.inl ⟨?hwsy4, ?hysy4⟩) (by assumption) ?hrsy4
            case hisy4 => (simp only [List.getElem?_toArray, List.getElem?_cons_succ, List.getElem?_cons_zero]; rfl)
            case hqsy4 => exact fun _ _ _ h => h
            case hwsy4 => rfl
            case hysy4 => (intro w0 hSw; (try dsimp only at hSw); go_simp; try with_reducible rfl)
            (try simp only [Act.put, List.setIfInBounds_toArray, List.set_cons_zero, List.set_cons_succ])
            refine' wpAnyH_take (i := 5) ?hisy5 (by kernel_rfl) (by kernel_rfl) (by kernel_rfl) ?hqsy5 (Or.inl ⟨?hwsy5, ?hysy5⟩) (by assumption) ?hrsy5
            case hisy5 => (simp only [List.getElem?_toArray, List.getElem?_cons_succ, List.getElem?_cons_zero]; rfl)
            case hqsy5 => exact fun _ _ _ h => h
            case hwsy5 => rfl
            case hysy5 => (intro w0 hSw; (try dsimp only at hSw); go_simp; try with_reducible rfl)
            (try simp only [Act.put, List.setIfInBounds_toArray, List.set_cons_zero, List.set_cons_succ])
            refine' wpAnyH_take (i := 6) ?hisy6 (by kernel_rfl) (by kernel_rfl) (by kernel_rfl) ?hqsy6 (Or.inl ⟨?hwsy6, ?hysy6⟩) (by assumption) ?hrsy6
            case hisy6 => (simp only [List.getElem?_toArray, List.getElem?_cons_succ, List.getElem?_cons_zero]; rfl)
            case hqsy6 => exact fun _ _ _ h => h
            case hwsy6 => rfl
            case hysy6 => (intro w0 hSw; (try dsimp only at hSw); go_simp; try with_reducible rfl)
            (try simp only [Act.put, List.setIfInBounds_toArray, List.set_cons_zero, List.set_cons_succ])
            refine' wpAnyH_take (i := 7) ?hisy7 (by kernel_rfl) (by kernel_rfl) (by kernel_rfl) ?hqsy7 (Or.inl ⟨?hwsy7, ?hysy7⟩) (by assumption) ?hrsy7
            case hisy7 => (simp only [List.getElem?_toArray, List.getElem?_cons_succ, List.getElem?_cons_zero]; rfl)
            case hqsy7 => exact fun _ _ _ h => h
            case hwsy7 => rfl
            case hysy7 => (intro w0 hSw; (try dsimp only at hSw); go_simp; try with_reducible rfl)
            (try simp only [Act.put, List.setIfInBounds_toArray, List.set_cons_zero, List.set_cons_succ])
            refine' wpAnyH_take (i := 8) ?hisy8 (by kernel_rfl) (by kernel_rfl) (by kernel_rfl) ?hqsy8 (Or.inl ⟨?hwsy8, ?hysy8⟩) (by assumption) ?hrsy8
            case hisy8 => (simp only [List.getElem?_toArray, List.getElem?_cons_succ, List.getElem?_cons_zero]; rfl)
            case hqsy8 => exact fun _ _ _ h => h
            case hwsy8 => rfl
            case hysy8 => (intro w0 hSw; (try dsimp only at hSw); go_simp; try with_reducible rfl)
            (try simp only [Act.put, List.setIfInBounds_toArray, List.set_cons_zero, List.set_cons_succ])
            refine' wpAnyH_take (i := 9) ?hisy9 (by kernel_rfl) (by kernel_rfl) (by kernel_rfl) ?hqsy9 (Or.inl ⟨?hwsy9, ?hysy9⟩) (by assumption) ?hrsy9
            case hisy9 => (simp only [List.getElem?_toArray, List.getElem?_cons_succ, List.getElem?_cons_zero]; rfl)
            case hqsy9 => exact fun _ _ _ h => h
            case hwsy9 => rfl
            case hysy9 => (intro w0 hSw; (try dsimp only at hSw); go_simp; try with_reducible rfl)
            (try simp only [Act.put, List.setIfInBounds_toArray, List.set_cons_zero, List.set_cons_succ])
            refine' wpAnyH_take (i := 10) ?hisy10 (by kernel_rfl) (by kernel_rfl) (by kernel_rfl) ?hqsy10 (Or.inl ⟨?hwsy10, ?hysy10⟩) (by assumption) ?hrsy10
            case hisy10 => (simp only [List.getElem?_toArray, List.getElem?_cons_succ, List.getElem?_cons_zero]; rfl)
            case hqsy10 => exact fun _ _ _ h => h
            case hwsy10 => rfl
            case hysy10 => (intro w0 hSw; (try dsimp only at hSw); go_simp; try with_reducible rfl)
            (try simp only [Act.put, List.setIfInBounds_toArray, List.set_cons_zero, List.set_cons_succ])
            refine' wpAnyH_take (i := 11) ?hisy11 (by kernel_rfl) (by kernel_rfl) (by kernel_rfl) ?hqsy11 (Or.inl ⟨?hwsy11, ?hysy11⟩) (by assumption) ?hrsy11
            case hisy11 => (simp only [List.getElem?_toArray, List.getElem?_cons_succ, List.getElem?_cons_zero]; rfl)
            case hqsy11 => exact fun _ _ _ h => h
            case hwsy11 => rfl
            case hysy11 => (intro w0 hSw; (try dsimp only at hSw); go_simp; try with_reducible rfl)
            (try simp only [Act.put, List.setIfInBounds_toArray, List.set_cons_zero, List.set_cons_succ])
            refine wpAnyH_ready (rs := [1]) (by kernel_rfl) (by simp) ?_
            refine' AllReadyH.cons ?hisy1 (fun K hK => ?hrsy1) AllReadyH.nil
            case hisy1 => (simp only [List.getElem?_toArray, List.getElem?_cons_succ, List.getElem?_cons_zero]; rfl)
            go_simp
            refine (HI.out.sync G2 p s m _ HPD.out.pb.t HPD.out.pb.n HPD.out.pb.b).mono ?_; rw [← HT0.out]; rintro e wB ⟨rfl, hbB, htB⟩; have HPB := Lib.hid (HPD.out.ofB HI.out HT.out hbB htB); clear hbB htB; have y0 : wB.cell? ⟨X, 0, none⟩ = some (.string t) := (by rw [HTT.out]; exact HPB.out.pb.cellX.1); have y1 := HPB.out.pb.cellX.2.1; have g1 := HPB.out.pb.cellX.2.2.2
            refine hK.out _ _ ?_ (fun hHeld => ?_)
            · exact ⟨y0, y1⟩
            clear hK K
            (try simp only [Act.put, List.setIfInBounds_toArray, List.set_cons_zero, List.set_cons_succ])
            refine' wpAnyH_take (i := 12) ?hisy12 (by kernel_rfl) (by kernel_rfl) (by kernel_rfl) ?hqsy12 (Or.inl ⟨?hwsy12, ?hysy12⟩) (by assumption) ?hrsy12
            case hisy12 => (simp only [List.getElem?_toArray, List.getElem?_cons_succ, List.getElem?_cons_zero]; rfl)
            case hqsy12 => exact fun _ _ _ h => h
            case hwsy12 => rfl
            case hysy12 => (intro w0 hSw; (try dsimp only at hSw); go_simp; try with_reducible rfl)
            (try simp only [Act.put, List.setIfInBounds_toArray, List.set_cons_zero, List.set_cons_succ])
            refine' wpAnyH_take (i := 13) ?hisy13 (by kernel_rfl) (by kernel_rfl) (by kernel_rfl) ?hqsy13 (Or.inl ⟨?hwsy13, ?hysy13⟩) (by assumption) ?hrsy13
            case hisy13 => (simp only [List.getElem?_toArray, List.getElem?_cons_succ, List.getElem?_cons_zero]; rfl)
            case hqsy13 => exact fun _ _ _ h => h
            case hwsy13 => rfl
            case hysy13 => (intro w0 hSw; (try dsimp only at hSw); go_simp; try with_reducible rfl)
            (try simp only [Act.put, List.setIfInBounds_toArray, List.set_cons_zero, List.set_cons_succ])
            refine wpAnyH_done (by kernel_rfl) ?_ _
            go_wp2_with fail
            go_meet
            refine ⟨rfl, s, t.size, by omega, by have := HT0.out; omega, Lib.hid (HST.out _ _ _ ?_)⟩
            refine HPB.out.ofX HI.out HT.out ?_ ((Turn.refl (· = X) wB).setCell rfl _)
            exact Blk.set_ HPB.out.pb.x 1 (.int .i64 (t.size : Int))
          have d2' : (kk == 2) = false := by simpa using h2
          clear h2
          by_cases h3 : kk = 3
          · have d3' : (kk == 3) = true := by simpa using h3
            clear h3
            have HPD := Lib.hid (HPA.out.drew HI.out)
            obtain ⟨rr, hrr⟩ : ∃ rr, rr = (cutB s m nn).2.2 := ⟨_, rfl⟩
            go_upto_region 19 with fail
            refine wp_region_held_drew (S := (fun w' => w'.cell? ⟨A, 1, none⟩ = some (.int .i64 nn))) (by kernel_rfl) ?_ (fun hHeld => ?_)
            · exact c1
            refine' wpAnyH_take (i := 0) ?hicu0 (by kernel_rfl) (by kernel_rfl) (by kernel_rfl) ?hqcu0 (Or.inl ⟨?hwcu0, ?hycu0⟩) (by assumption) ?hrcu0
            case hicu0 => (simp only [List.getElem?_toArray, List.getElem?_cons_succ, List.getElem?_cons_zero]; rfl)
            case hqcu0 => exact fun _ _ _ h => h
            case hwcu0 => rfl
            case hycu0 => (intro w0 hSw; (try dsimp only at hSw); go_simp; try with_reducible rfl)
            (try simp only [Act.put, List.setIfInBounds_toArray, List.set_cons_zero, List.set_cons_succ])
            refine' wpAnyH_take (i := 1) ?hicu1 (by kernel_rfl) (by kernel_rfl) (by kernel_rfl) ?hqcu1 (Or.inl ⟨?hwcu1, ?hycu1⟩) (by assumption) ?hrcu1
            case hicu1 => (simp only [List.getElem?_toArray, List.getElem?_cons_succ, List.getElem?_cons_zero]; rfl)
            case hqcu1 => exact fun _ _ _ h => h
            case hwcu1 => rfl
            case hycu1 => (intro w0 hSw; (try dsimp only at hSw); go_simp; try with_reducible rfl)
            (try simp only [Act.put, List.setIfInBounds_toArray, List.set_cons_zero, List.set_cons_succ])
            refine' wpAnyH_take (i := 2) ?hicu2 (by kernel_rfl) (by kernel_rfl) (by kernel_rfl) ?hqcu2 (Or.inl ⟨?hwcu2, ?hycu2⟩) (by assumption) ?hrcu2
            case hicu2 => (simp only [List.getElem?_toArray, List.getElem?_cons_succ, List.getElem?_cons_zero]; rfl)
            case hqcu2 => exact fun _ _ _ h => h
            case hwcu2 => rfl
            case hycu2 => (intro w0 hSw; (try dsimp only at hSw); go_simp; try with_reducible rfl)
            (try simp only [Act.put, List.setIfInBounds_toArray, List.set_cons_zero, List.set_cons_succ])
            refine' wpAnyH_take (i := 4) ?hicu4 (by kernel_rfl) (by kernel_rfl) (by kernel_rfl) ?hqcu4 (Or.inl ⟨?hwcu4, ?hycu4⟩) (by assumption) ?hrcu4
            case hicu4 => (simp only [List.getElem?_toArray, List.getElem?_cons_succ, List.getElem?_cons_zero]; rfl)
            case hqcu4 => exact fun _ _ _ h => h
            case hwcu4 => rfl
            case hycu4 => (intro w0 hSw; (try dsimp only at hSw); go_simp; try with_reducible rfl)
            (try simp only [Act.put, List.setIfInBounds_toArray, List.set_cons_zero, List.set_cons_succ])
            refine' wpAnyH_take (i := 5) ?hicu5 (by kernel_rfl) (by kernel_rfl) (by kernel_rfl) ?hqcu5 (Or.inl ⟨?hwcu5, ?hycu5⟩) (by assumption) ?hrcu5
            case hicu5 => (simp only [List.getElem?_toArray, List.getElem?_cons_succ, List.getElem?_cons_zero]; rfl)
            case hqcu5 => exact fun _ _ _ h => h
            case hwcu5 => rfl
            case hycu5 => (intro w0 hSw; (try dsimp only at hSw); go_simp; try with_reducible rfl)
            (try simp only [Act.put, List.setIfInBounds_toArray, List.set_cons_zero, List.set_cons_succ])
            refine' wpAnyH_take (i := 6) ?hicu6 (by kernel_rfl) (by kernel_rfl) (by kernel_rfl) ?hqcu6 (Or.inl ⟨?hwcu6, ?hycu6⟩) (by assumption) ?hrcu6
            case hicu6 => (simp only [List.getElem?_toArray, List.getElem?_cons_succ, List.getElem?_cons_zero]; rfl)
            case hqcu6 => exact fun _ _ _ h => h
            case hwcu6 => rfl
            case hycu6 => (intro w0 hSw; (try dsimp only at hSw); go_simp; try with_reducible rfl)
            (try simp only [Act.put, List.setIfInBounds_toArray, List.set_cons_zero, List.set_cons_succ])
            refine wpAnyH_ready (rs := [3]) (by kernel_rfl) (by simp) ?_
            refine' AllReadyH.cons ?hicu3 (fun K hK => ?hrcu3) AllReadyH.nil
            case hicu3 => (simp only [List.getElem?_toArray, List.getElem?_cons_succ, List.getElem?_cons_zero]; rfl)
            go_simp
            refine (HI.out.cut G2 p s m nn _ HPD.out.pb.t HPD.out.pb.n HPD.out.pb.b).mono ?_; rintro e wB ⟨rfl, hbB, htB⟩; have HPB := Lib.hid (HPD.out.ofB HI.out HT.out hbB htB); clear hbB htB; have d1 := HPB.out.cells.2.1
            refine hK.out _ _ ?_ (fun hHeld => ?_)
            · exact d1
            clear hK K
            (try simp only [Act.put, List.setIfInBounds_toArray, List.set_cons_zero, List.set_cons_succ])
            refine wpAnyH_ready (rs := [7]) (by kernel_rfl) (by simp) ?_
            refine' AllReadyH.cons ?hicu7 (fun K hK => ?hrcu7) AllReadyH.nil
            case hicu7 => (simp only [List.getElem?_toArray, List.getElem?_cons_succ, List.getElem?_cons_zero]; rfl)
            go_simp
            refine (cut_any X s m nn _ HPB.out.pb.x (by omega)).mono ?_; rintro e wC ⟨rfl, hxC, htC⟩; have HPC := Lib.hid (HPB.out.ofX HI.out HT.out hxC htC); clear hxC htC; have d1 := HPC.out.cells.2.1
            refine hK.out _ _ ?_ (fun hHeld => ?_)
            · exact d1
            clear hK K
            (try simp only [Act.put, List.setIfInBounds_toArray, List.set_cons_zero, List.set_cons_succ])
            refine' wpAnyH_take (i := 8) ?hicu8 (by kernel_rfl) (by kernel_rfl) (by kernel_rfl) ?hqcu8 (Or.inl ⟨?hwcu8, ?hycu8⟩) (by assumption) ?hrcu8
            case hicu8 => (simp only [List.getElem?_toArray, List.getElem?_cons_succ, List.getElem?_cons_zero]; rfl)
            case hqcu8 => exact fun _ _ _ h => h
            case hwcu8 => rfl
            case hycu8 => (intro w0 hSw; (try dsimp only at hSw); go_simp; try with_reducible rfl)
            (try simp only [Act.put, List.setIfInBounds_toArray, List.set_cons_zero, List.set_cons_succ])
            refine' wpAnyH_take (i := 9) ?hicu9 (by kernel_rfl) (by kernel_rfl) (by kernel_rfl) ?hqcu9 (Or.inl ⟨?hwcu9, ?hycu9⟩) (by assumption) ?hrcu9
            case hicu9 => (simp only [List.getElem?_toArray, List.getElem?_cons_succ, List.getElem?_cons_zero]; rfl)
            case hqcu9 => exact fun _ _ _ h => h
            case hwcu9 => rfl
            case hycu9 => (intro w0 hSw; (try dsimp only at hSw); go_simp; try with_reducible rfl)
            (try simp only [Act.put, List.setIfInBounds_toArray, List.set_cons_zero, List.set_cons_succ])
            refine wpAnyH_done (by kernel_rfl) ?_ _
            go_wp2_with fail
            go_meet
            have hL := cutB_le s m nn (by omega)
            exact ⟨rfl, _, _, by omega, hL.1, Lib.hid (HST.out _ _ _ HPC.out)⟩
          have d3' : (kk == 3) = false := by simpa using h3
          clear h3
          by_cases h4 : kk = 4
          · have d4' : (kk == 4) = true := by simpa using h4
            clear h4
            have HPD := Lib.hid (HPA.out.drew HI.out)
            obtain ⟨rr, hrr⟩ : ∃ rr, rr = (crashB s m nn).2.2 := ⟨_, rfl⟩
            go_upto_region 21 with fail
            refine wp_region_held_drew (S := (fun w' => w'.cell? ⟨A, 1, none⟩ = some (.int .i64 nn))) (by kernel_rfl) ?_ (fun hHeld => ?_)
            · exact c1
            refine' wpAnyH_take (i := 0) ?hicr0 (by kernel_rfl) (by kernel_rfl) (by kernel_rfl) ?hqcr0 (Or.inl ⟨?hwcr0, ?hycr0⟩) (by assumption) ?hrcr0
            case hicr0 => (simp only [List.getElem?_toArray, List.getElem?_cons_succ, List.getElem?_cons_zero]; rfl)
            case hqcr0 => exact fun _ _ _ h => h
            case hwcr0 => rfl
            case hycr0 => (intro w0 hSw; (try dsimp only at hSw); go_simp; try with_reducible rfl)
            (try simp only [Act.put, List.setIfInBounds_toArray, List.set_cons_zero, List.set_cons_succ])
            refine' wpAnyH_take (i := 1) ?hicr1 (by kernel_rfl) (by kernel_rfl) (by kernel_rfl) ?hqcr1 (Or.inl ⟨?hwcr1, ?hycr1⟩) (by assumption) ?hrcr1
            case hicr1 => (simp only [List.getElem?_toArray, List.getElem?_cons_succ, List.getElem?_cons_zero]; rfl)
            case hqcr1 => exact fun _ _ _ h => h
            case hwcr1 => rfl
            case hycr1 => (intro w0 hSw; (try dsimp only at hSw); go_simp; try with_reducible rfl)
            (try simp only [Act.put, List.setIfInBounds_toArray, List.set_cons_zero, List.set_cons_succ])
            refine' wpAnyH_take (i := 2) ?hicr2 (by kernel_rfl) (by kernel_rfl) (by kernel_rfl) ?hqcr2 (Or.inl ⟨?hwcr2, ?hycr2⟩) (by assumption) ?hrcr2
            case hicr2 => (simp only [List.getElem?_toArray, List.getElem?_cons_succ, List.getElem?_cons_zero]; rfl)
            case hqcr2 => exact fun _ _ _ h => h
            case hwcr2 => rfl
            case hycr2 => (intro w0 hSw; (try dsimp only at hSw); go_simp; try with_reducible rfl)
            (try simp only [Act.put, List.setIfInBounds_toArray, List.set_cons_zero, List.set_cons_succ])
            refine' wpAnyH_take (i := 4) ?hicr4 (by kernel_rfl) (by kernel_rfl) (by kernel_rfl) ?hqcr4 (Or.inl ⟨?hwcr4, ?hycr4⟩) (by assumption) ?hrcr4
            case hicr4 => (simp only [List.getElem?_toArray, List.getElem?_cons_succ, List.getElem?_cons_zero]; rfl)
            case hqcr4 => exact fun _ _ _ h => h
            case hwcr4 => rfl
            case hycr4 => (intro w0 hSw; (try dsimp only at hSw); go_simp; try with_reducible rfl)
            (try simp only [Act.put, List.setIfInBounds_toArray, List.set_cons_zero, List.set_cons_succ])
            refine' wpAnyH_take (i := 5) ?hicr5 (by kernel_rfl) (by kernel_rfl) (by kernel_rfl) ?hqcr5 (Or.inl ⟨?hwcr5, ?hycr5⟩) (by assumption) ?hrcr5
            case hicr5 => (simp only [List.getElem?_toArray, List.getElem?_cons_succ, List.getElem?_cons_zero]; rfl)
            case hqcr5 => exact fun _ _ _ h => h
            case hwcr5 => rfl
            case hycr5 => (intro w0 hSw; (try dsimp only at hSw); go_simp; try with_reducible rfl)
            (try simp only [Act.put, List.setIfInBounds_toArray, List.set_cons_zero, List.set_cons_succ])
            refine' wpAnyH_take (i := 6) ?hicr6 (by kernel_rfl) (by kernel_rfl) (by kernel_rfl) ?hqcr6 (Or.inl ⟨?hwcr6, ?hycr6⟩) (by assumption) ?hrcr6
            case hicr6 => (simp only [List.getElem?_toArray, List.getElem?_cons_succ, List.getElem?_cons_zero]; rfl)
            case hqcr6 => exact fun _ _ _ h => h
            case hwcr6 => rfl
            case hycr6 => (intro w0 hSw; (try dsimp only at hSw); go_simp; try with_reducible rfl)
            (try simp only [Act.put, List.setIfInBounds_toArray, List.set_cons_zero, List.set_cons_succ])
            refine wpAnyH_ready (rs := [3]) (by kernel_rfl) (by simp) ?_
            refine' AllReadyH.cons ?hicr3 (fun K hK => ?hrcr3) AllReadyH.nil
            case hicr3 => (simp only [List.getElem?_toArray, List.getElem?_cons_succ, List.getElem?_cons_zero]; rfl)
            go_simp
            refine (HI.out.crash G2 p s m nn _ HPD.out.pb.t HPD.out.pb.n HPD.out.pb.b).mono ?_; rintro e wB ⟨rfl, hbB, htB⟩; have HPB := Lib.hid (HPD.out.ofB HI.out HT.out hbB htB); clear hbB htB; have d1 := HPB.out.cells.2.1
            refine hK.out _ _ ?_ (fun hHeld => ?_)
            · exact d1
            clear hK K
            (try simp only [Act.put, List.setIfInBounds_toArray, List.set_cons_zero, List.set_cons_succ])
            refine wpAnyH_ready (rs := [7]) (by kernel_rfl) (by simp) ?_
            refine' AllReadyH.cons ?hicr7 (fun K hK => ?hrcr7) AllReadyH.nil
            case hicr7 => (simp only [List.getElem?_toArray, List.getElem?_cons_succ, List.getElem?_cons_zero]; rfl)
            go_simp
            refine (crash_any X s m nn _ HPB.out.pb.x (by omega) (by omega)).mono ?_; rintro e wC ⟨rfl, hxC, htC⟩; have HPC := Lib.hid (HPB.out.ofX HI.out HT.out hxC htC); clear hxC htC; have d1 := HPC.out.cells.2.1
            refine hK.out _ _ ?_ (fun hHeld => ?_)
            · exact d1
            clear hK K
            (try simp only [Act.put, List.setIfInBounds_toArray, List.set_cons_zero, List.set_cons_succ])
            refine' wpAnyH_take (i := 8) ?hicr8 (by kernel_rfl) (by kernel_rfl) (by kernel_rfl) ?hqcr8 (Or.inl ⟨?hwcr8, ?hycr8⟩) (by assumption) ?hrcr8
            case hicr8 => (simp only [List.getElem?_toArray, List.getElem?_cons_succ, List.getElem?_cons_zero]; rfl)
            case hqcr8 => exact fun _ _ _ h => h
            case hwcr8 => rfl
            case hycr8 => (intro w0 hSw; (try dsimp only at hSw); go_simp; try with_reducible rfl)
            (try simp only [Act.put, List.setIfInBounds_toArray, List.set_cons_zero, List.set_cons_succ])
            refine' wpAnyH_take (i := 9) ?hicr9 (by kernel_rfl) (by kernel_rfl) (by kernel_rfl) ?hqcr9 (Or.inl ⟨?hwcr9, ?hycr9⟩) (by assumption) ?hrcr9
            case hicr9 => (simp only [List.getElem?_toArray, List.getElem?_cons_succ, List.getElem?_cons_zero]; rfl)
            case hqcr9 => exact fun _ _ _ h => h
            case hwcr9 => rfl
            case hycr9 => (intro w0 hSw; (try dsimp only at hSw); go_simp; try with_reducible rfl)
            (try simp only [Act.put, List.setIfInBounds_toArray, List.set_cons_zero, List.set_cons_succ])
            refine wpAnyH_done (by kernel_rfl) ?_ _
            go_wp2_with fail
            go_meet
            have hL := crashB_le s m nn (by omega)
            exact ⟨rfl, _, _, by omega, by omega, Lib.hid (HST.out _ _ _ HPC.out)⟩
          have d4' : (kk == 4) = false := by simpa using h4
          clear h4
          go_wp2_with fail
          go_meet
          exact ⟨rfl, s, m, by omega, hm, Lib.hid (HST.out _ _ _ HPA.out)⟩
        case rest =>
          obtain ⟨rfl, s', m', hs', hm', HP3⟩ := hcut
          clear x0 x1 f0 f1 c0 c1 c2 HPA HST t0 t1 z0 m0 m1 wm tz HTT HT0
          have HPD := Lib.hid (HP3.out.drew HI.out)
          obtain ⟨t, ht⟩ : ∃ t, t = bt s' := ⟨_, rfl⟩
          have ht0 := bt_size s'
          rw [← ht] at ht0
          have x0 := HPD.out.cellX.1
          rw [← ht] at x0
          have x1 := HPD.out.cellX.2.1
          have t0 : (0 : Int) ≤ (t.size : Int) := Int.natCast_nonneg _
          have t1 : (t.size : Int) ≤ 30000 := by omega
          have m0 : (0 : Int) ≤ (m' : Int) := Int.natCast_nonneg _
          have m1 : (m' : Int) ≤ (t.size : Int) := by omega
          have wm : IntKind.i64.wrap ((t.size : Int) - (m' : Int)) = (t.size : Int) - (m' : Int) := by rw [IntKind.wrap_i64]; omega
          have HTT := Lib.hid ht
          have HT0 := Lib.hid ht0
          clear ht ht0
          go_upto_region 22 with fail
          refine wp_region_held_drew (S := (fun w' => w'.cell? ⟨X, 0, none⟩ = some (.string t) ∧ w'.cell? ⟨X, 1, none⟩ = some (.int .i64 (m' : Int)))) (by kernel_rfl) ?_ (fun hHeld => ?_)
          · exact ⟨x0, x1⟩
          refine' wpAnyH_take (i := 0) ?hirr0 (by kernel_rfl) (by kernel_rfl) (by kernel_rfl) ?hqrr0 (Or.inl ⟨?hwrr0, ?hyrr0⟩) (by assumption) ?hrrr0
          case hirr0 => (simp only [List.getElem?_toArray, List.getElem?_cons_succ, List.getElem?_cons_zero]; rfl)
          case hqrr0 => exact fun _ _ _ h => h
          case hwrr0 => rfl
          case hyrr0 => (intro w0 hSw; (try dsimp only at hSw); go_simp; try with_reducible rfl)
          (try simp only [Act.put, List.setIfInBounds_toArray, List.set_cons_zero, List.set_cons_succ])
          refine' wpAnyH_take (i := 1) ?hirr1 (by kernel_rfl) (by kernel_rfl) (by kernel_rfl) ?hqrr1 (Or.inl ⟨?hwrr1, ?hyrr1⟩) (by assumption) ?hrrr1
          case hirr1 => (simp only [List.getElem?_toArray, List.getElem?_cons_succ, List.getElem?_cons_zero]; rfl)
          case hqrr1 => exact fun _ _ _ h => h
          case hwrr1 => rfl
          case hyrr1 => (intro w0 hSw; (try dsimp only at hSw); go_simp; try with_reducible rfl)
          (try simp only [Act.put, List.setIfInBounds_toArray, List.set_cons_zero, List.set_cons_succ])
          refine' wpAnyH_take (i := 2) ?hirr2 (by kernel_rfl) (by kernel_rfl) (by kernel_rfl) ?hqrr2 (Or.inl ⟨?hwrr2, ?hyrr2⟩) (by assumption) ?hrrr2
          case hirr2 => (simp only [List.getElem?_toArray, List.getElem?_cons_succ, List.getElem?_cons_zero]; rfl)
          case hqrr2 => exact fun _ _ _ h => h
          case hwrr2 => rfl
          case hyrr2 => (intro w0 hSw; (try dsimp only at hSw); go_simp; try with_reducible rfl)
          (try simp only [Act.put, List.setIfInBounds_toArray, List.set_cons_zero, List.set_cons_succ])
          refine' wpAnyH_take (i := 3) ?hirr3 (by kernel_rfl) (by kernel_rfl) (by kernel_rfl) ?hqrr3 (Or.inl ⟨?hwrr3, ?hyrr3⟩) (by assumption) ?hrrr3
          case hirr3 => (simp only [List.getElem?_toArray, List.getElem?_cons_succ, List.getElem?_cons_zero]; rfl)
          case hqrr3 => exact fun _ _ _ h => h
          case hwrr3 => rfl
          case hyrr3 => (intro w0 hSw; (try dsimp only at hSw); go_simp; try with_reducible rfl)
          (try simp only [Act.put, List.setIfInBounds_toArray, List.set_cons_zero, List.set_cons_succ])
          refine' wpAnyH_take (i := 5) ?hirr5 (by kernel_rfl) (by kernel_rfl) (by kernel_rfl) ?hqrr5 (Or.inl ⟨?hwrr5, ?hyrr5⟩) (by assumption) ?hrrr5
          case hirr5 => (simp only [List.getElem?_toArray, List.getElem?_cons_succ, List.getElem?_cons_zero]; rfl)
          case hqrr5 => exact fun _ _ _ h => h
          case hwrr5 => rfl
          case hyrr5 => (intro w0 hSw; (try dsimp only at hSw); go_simp; try with_reducible rfl)
          (try simp only [Act.put, List.setIfInBounds_toArray, List.set_cons_zero, List.set_cons_succ])
          refine' wpAnyH_take (i := 6) ?hirr6 (by kernel_rfl) (by kernel_rfl) (by kernel_rfl) ?hqrr6 (Or.inl ⟨?hwrr6, ?hyrr6⟩) (by assumption) ?hrrr6
          case hirr6 => (simp only [List.getElem?_toArray, List.getElem?_cons_succ, List.getElem?_cons_zero]; rfl)
          case hqrr6 => exact fun _ _ _ h => h
          case hwrr6 => rfl
          case hyrr6 => (intro w0 hSw; (try dsimp only at hSw); go_simp; try with_reducible rfl)
          (try simp only [Act.put, List.setIfInBounds_toArray, List.set_cons_zero, List.set_cons_succ])
          refine' wpAnyH_take (i := 7) ?hirr7 (by kernel_rfl) (by kernel_rfl) (by kernel_rfl) ?hqrr7 (Or.inl ⟨?hwrr7, ?hyrr7⟩) (by assumption) ?hrrr7
          case hirr7 => (simp only [List.getElem?_toArray, List.getElem?_cons_succ, List.getElem?_cons_zero]; rfl)
          case hqrr7 => exact fun _ _ _ h => h
          case hwrr7 => rfl
          case hyrr7 => (intro w0 hSw; (try dsimp only at hSw); go_simp; try with_reducible rfl)
          (try simp only [Act.put, List.setIfInBounds_toArray, List.set_cons_zero, List.set_cons_succ])
          refine' wpAnyH_take (i := 8) ?hirr8 (by kernel_rfl) (by kernel_rfl) (by kernel_rfl) ?hqrr8 (Or.inl ⟨?hwrr8, ?hyrr8⟩) (by assumption) ?hrrr8
          case hirr8 => (simp only [List.getElem?_toArray, List.getElem?_cons_succ, List.getElem?_cons_zero]; rfl)
          case hqrr8 => exact fun _ _ _ h => h
          case hwrr8 => rfl
          case hyrr8 => (intro w0 hSw; (try dsimp only at hSw); go_simp; try with_reducible rfl)
          (try simp only [Act.put, List.setIfInBounds_toArray, List.set_cons_zero, List.set_cons_succ])
          refine wpAnyH_ready (rs := [4]) (by kernel_rfl) (by simp) ?_
          refine' AllReadyH.cons ?hirr4 (fun K hK => ?hrrr4) AllReadyH.nil
          case hirr4 => (simp only [List.getElem?_toArray, List.getElem?_cons_succ, List.getElem?_cons_zero]; rfl)
          go_simp
          refine (HI.out.data G p s' m' _ HPD.out.t HPD.out.b).mono ?_; rw [← HTT.out]; rintro e wH4 ⟨rfl, hbH4⟩; have H4 := Lib.hid (HPD.out.next HI.out hbH4); have y0 : wH4.cell? ⟨X, 0, none⟩ = some (.string t) := (by rw [HTT.out]; exact H4.out.cellX.1); have y1 := H4.out.cellX.2.1
          refine hK.out _ _ ?_ (fun hHeld => ?_)
          · exact ⟨y0, y1⟩
          clear hK K
          (try simp only [Act.put, List.setIfInBounds_toArray, List.set_cons_zero, List.set_cons_succ])
          refine' wpAnyH_take (i := 9) ?hirr9 (by kernel_rfl) (by kernel_rfl) (by kernel_rfl) ?hqrr9 (Or.inl ⟨?hwrr9, ?hyrr9⟩) (by assumption) ?hrrr9
          case hirr9 => (simp only [List.getElem?_toArray, List.getElem?_cons_succ, List.getElem?_cons_zero]; rfl)
          case hqrr9 => exact fun _ _ _ h => h
          case hwrr9 => rfl
          case hyrr9 => (intro w0 hSw; (try dsimp only at hSw); go_simp; try with_reducible rfl)
          (try simp only [Act.put, List.setIfInBounds_toArray, List.set_cons_zero, List.set_cons_succ])
          refine' wpAnyH_take (i := 10) ?hirr10 (by kernel_rfl) (by kernel_rfl) (by kernel_rfl) ?hqrr10 (Or.inl ⟨?hwrr10, ?hyrr10⟩) (by assumption) ?hrrr10
          case hirr10 => (simp only [List.getElem?_toArray, List.getElem?_cons_succ, List.getElem?_cons_zero]; rfl)
          case hqrr10 => exact fun _ _ _ h => h
          case hwrr10 => rfl
          case hyrr10 => (intro w0 hSw; (try dsimp only at hSw); go_simp; try with_reducible rfl)
          (try simp only [Act.put, List.setIfInBounds_toArray, List.set_cons_zero, List.set_cons_succ])
          refine' wpAnyH_take (i := 11) ?hirr11 (by kernel_rfl) (by kernel_rfl) (by kernel_rfl) ?hqrr11 (Or.inl ⟨?hwrr11, ?hyrr11⟩) (by assumption) ?hrrr11
          case hirr11 => (simp only [List.getElem?_toArray, List.getElem?_cons_succ, List.getElem?_cons_zero]; rfl)
          case hqrr11 => exact fun _ _ _ h => h
          case hwrr11 => rfl
          case hyrr11 => (intro w0 hSw; (try dsimp only at hSw); go_simp; try with_reducible rfl)
          (try simp only [Act.put, List.setIfInBounds_toArray, List.set_cons_zero, List.set_cons_succ])
          refine' wpAnyH_take (i := 12) ?hirr12 (by kernel_rfl) (by kernel_rfl) (by kernel_rfl) ?hqrr12 (Or.inl ⟨?hwrr12, ?hyrr12⟩) (by assumption) ?hrrr12
          case hirr12 => (simp only [List.getElem?_toArray, List.getElem?_cons_succ, List.getElem?_cons_zero]; rfl)
          case hqrr12 => exact fun _ _ _ h => h
          case hwrr12 => rfl
          case hyrr12 => (intro w0 hSw; (try dsimp only at hSw); go_simp; try with_reducible rfl)
          (try simp only [Act.put, List.setIfInBounds_toArray, List.set_cons_zero, List.set_cons_succ])
          refine' wpAnyH_take (i := 14) ?hirr14 (by kernel_rfl) (by kernel_rfl) (by kernel_rfl) ?hqrr14 (Or.inl ⟨?hwrr14, ?hyrr14⟩) (by assumption) ?hrrr14
          case hirr14 => (simp only [List.getElem?_toArray, List.getElem?_cons_succ, List.getElem?_cons_zero]; rfl)
          case hqrr14 => exact fun _ _ _ h => h
          case hwrr14 => rfl
          case hyrr14 => (intro w0 hSw; (try dsimp only at hSw); go_simp; try with_reducible rfl)
          (try simp only [Act.put, List.setIfInBounds_toArray, List.set_cons_zero, List.set_cons_succ])
          refine' wpAnyH_take (i := 15) ?hirr15 (by kernel_rfl) (by kernel_rfl) (by kernel_rfl) ?hqrr15 (Or.inl ⟨?hwrr15, ?hyrr15⟩) (by assumption) ?hrrr15
          case hirr15 => (simp only [List.getElem?_toArray, List.getElem?_cons_succ, List.getElem?_cons_zero]; rfl)
          case hqrr15 => exact fun _ _ _ h => h
          case hwrr15 => rfl
          case hyrr15 => (intro w0 hSw; (try dsimp only at hSw); go_simp; try with_reducible rfl)
          (try simp only [Act.put, List.setIfInBounds_toArray, List.set_cons_zero, List.set_cons_succ])
          refine' wpAnyH_take (i := 16) ?hirr16 (by kernel_rfl) (by kernel_rfl) (by kernel_rfl) ?hqrr16 (Or.inl ⟨?hwrr16, ?hyrr16⟩) (by assumption) ?hrrr16
          case hirr16 => (simp only [List.getElem?_toArray, List.getElem?_cons_succ, List.getElem?_cons_zero]; rfl)
          case hqrr16 => exact fun _ _ _ h => h
          case hwrr16 => rfl
          case hyrr16 => (intro w0 hSw; (try dsimp only at hSw); go_simp; try with_reducible rfl)
          (try simp only [Act.put, List.setIfInBounds_toArray, List.set_cons_zero, List.set_cons_succ])
          refine' wpAnyH_take (i := 17) ?hirr17 (by kernel_rfl) (by kernel_rfl) (by kernel_rfl) ?hqrr17 (Or.inl ⟨?hwrr17, ?hyrr17⟩) (by assumption) ?hrrr17
          case hirr17 => (simp only [List.getElem?_toArray, List.getElem?_cons_succ, List.getElem?_cons_zero]; rfl)
          case hqrr17 => exact fun _ _ _ h => h
          case hwrr17 => rfl
          case hyrr17 => (intro w0 hSw; (try dsimp only at hSw); go_simp; try with_reducible rfl)
          (try simp only [Act.put, List.setIfInBounds_toArray, List.set_cons_zero, List.set_cons_succ])
          refine' wpAnyH_take (i := 18) ?hirr18 (by kernel_rfl) (by kernel_rfl) (by kernel_rfl) ?hqrr18 (Or.inl ⟨?hwrr18, ?hyrr18⟩) (by assumption) ?hrrr18
          case hirr18 => (simp only [List.getElem?_toArray, List.getElem?_cons_succ, List.getElem?_cons_zero]; rfl)
          case hqrr18 => exact fun _ _ _ h => h
          case hwrr18 => rfl
          case hyrr18 => (intro w0 hSw; (try dsimp only at hSw); go_simp; try with_reducible rfl)
          (try simp only [Act.put, List.setIfInBounds_toArray, List.set_cons_zero, List.set_cons_succ])
          refine wpAnyH_ready (rs := [13]) (by kernel_rfl) (by simp) ?_
          refine' AllReadyH.cons ?hirr13 (fun K hK => ?hrrr13) AllReadyH.nil
          case hirr13 => (simp only [List.getElem?_toArray, List.getElem?_cons_succ, List.getElem?_cons_zero]; rfl)
          go_simp
          refine (HI.out.size G p s' m' _ H4.out.t H4.out.b).mono ?_; rw [← HT0.out]; rintro e wH5 ⟨rfl, hbH5⟩; have H5 := Lib.hid (H4.out.next HI.out hbH5); have y0 : wH5.cell? ⟨X, 0, none⟩ = some (.string t) := (by rw [HTT.out]; exact H5.out.cellX.1); have y1 := H5.out.cellX.2.1
          refine hK.out _ _ ?_ (fun hHeld => ?_)
          · exact ⟨y0, y1⟩
          clear hK K
          (try simp only [Act.put, List.setIfInBounds_toArray, List.set_cons_zero, List.set_cons_succ])
          refine' wpAnyH_take (i := 19) ?hirr19 (by kernel_rfl) (by kernel_rfl) (by kernel_rfl) ?hqrr19 (Or.inl ⟨?hwrr19, ?hyrr19⟩) (by assumption) ?hrrr19
          case hirr19 => (simp only [List.getElem?_toArray, List.getElem?_cons_succ, List.getElem?_cons_zero]; rfl)
          case hqrr19 => exact fun _ _ _ h => h
          case hwrr19 => rfl
          case hyrr19 => (intro w0 hSw; (try dsimp only at hSw); go_simp; try with_reducible rfl)
          (try simp only [Act.put, List.setIfInBounds_toArray, List.set_cons_zero, List.set_cons_succ])
          refine' wpAnyH_take (i := 20) ?hirr20 (by kernel_rfl) (by kernel_rfl) (by kernel_rfl) ?hqrr20 (Or.inl ⟨?hwrr20, ?hyrr20⟩) (by assumption) ?hrrr20
          case hirr20 => (simp only [List.getElem?_toArray, List.getElem?_cons_succ, List.getElem?_cons_zero]; rfl)
          case hqrr20 => exact fun _ _ _ h => h
          case hwrr20 => rfl
          case hyrr20 => (intro w0 hSw; (try dsimp only at hSw); go_simp; try with_reducible rfl)
          (try simp only [Act.put, List.setIfInBounds_toArray, List.set_cons_zero, List.set_cons_succ])
          refine' wpAnyH_take (i := 21) ?hirr21 (by kernel_rfl) (by kernel_rfl) (by kernel_rfl) ?hqrr21 (Or.inl ⟨?hwrr21, ?hyrr21⟩) (by assumption) ?hrrr21
          case hirr21 => (simp only [List.getElem?_toArray, List.getElem?_cons_succ, List.getElem?_cons_zero]; rfl)
          case hqrr21 => exact fun _ _ _ h => h
          case hwrr21 => rfl
          case hyrr21 => (intro w0 hSw; (try dsimp only at hSw); go_simp; try with_reducible rfl)
          (try simp only [Act.put, List.setIfInBounds_toArray, List.set_cons_zero, List.set_cons_succ])
          refine' wpAnyH_take (i := 22) ?hirr22 (by kernel_rfl) (by kernel_rfl) (by kernel_rfl) ?hqrr22 (Or.inl ⟨?hwrr22, ?hyrr22⟩) (by assumption) ?hrrr22
          case hirr22 => (simp only [List.getElem?_toArray, List.getElem?_cons_succ, List.getElem?_cons_zero]; rfl)
          case hqrr22 => exact fun _ _ _ h => h
          case hwrr22 => rfl
          case hyrr22 => (intro w0 hSw; (try dsimp only at hSw); go_simp; try with_reducible rfl)
          (try simp only [Act.put, List.setIfInBounds_toArray, List.set_cons_zero, List.set_cons_succ])
          refine' wpAnyH_take (i := 24) ?hirr24 (by kernel_rfl) (by kernel_rfl) (by kernel_rfl) ?hqrr24 (Or.inl ⟨?hwrr24, ?hyrr24⟩) (by assumption) ?hrrr24
          case hirr24 => (simp only [List.getElem?_toArray, List.getElem?_cons_succ, List.getElem?_cons_zero]; rfl)
          case hqrr24 => exact fun _ _ _ h => h
          case hwrr24 => rfl
          case hyrr24 => (intro w0 hSw; (try dsimp only at hSw); go_simp; try with_reducible rfl)
          (try simp only [Act.put, List.setIfInBounds_toArray, List.set_cons_zero, List.set_cons_succ])
          refine' wpAnyH_take (i := 25) ?hirr25 (by kernel_rfl) (by kernel_rfl) (by kernel_rfl) ?hqrr25 (Or.inl ⟨?hwrr25, ?hyrr25⟩) (by assumption) ?hrrr25
          case hirr25 => (simp only [List.getElem?_toArray, List.getElem?_cons_succ, List.getElem?_cons_zero]; rfl)
          case hqrr25 => exact fun _ _ _ h => h
          case hwrr25 => rfl
          case hyrr25 => (intro w0 hSw; (try dsimp only at hSw); go_simp; try with_reducible rfl)
          (try simp only [Act.put, List.setIfInBounds_toArray, List.set_cons_zero, List.set_cons_succ])
          refine' wpAnyH_take (i := 26) ?hirr26 (by kernel_rfl) (by kernel_rfl) (by kernel_rfl) ?hqrr26 (Or.inl ⟨?hwrr26, ?hyrr26⟩) (by assumption) ?hrrr26
          case hirr26 => (simp only [List.getElem?_toArray, List.getElem?_cons_succ, List.getElem?_cons_zero]; rfl)
          case hqrr26 => exact fun _ _ _ h => h
          case hwrr26 => rfl
          case hyrr26 => (intro w0 hSw; (try dsimp only at hSw); go_simp; try with_reducible rfl)
          (try simp only [Act.put, List.setIfInBounds_toArray, List.set_cons_zero, List.set_cons_succ])
          refine' wpAnyH_take (i := 27) ?hirr27 (by kernel_rfl) (by kernel_rfl) (by kernel_rfl) ?hqrr27 (Or.inl ⟨?hwrr27, ?hyrr27⟩) (by assumption) ?hrrr27
          case hirr27 => (simp only [List.getElem?_toArray, List.getElem?_cons_succ, List.getElem?_cons_zero]; rfl)
          case hqrr27 => exact fun _ _ _ h => h
          case hwrr27 => rfl
          case hyrr27 => (intro w0 hSw; (try dsimp only at hSw); go_simp; try with_reducible rfl)
          (try simp only [Act.put, List.setIfInBounds_toArray, List.set_cons_zero, List.set_cons_succ])
          refine' wpAnyH_take (i := 28) ?hirr28 (by kernel_rfl) (by kernel_rfl) (by kernel_rfl) ?hqrr28 (Or.inl ⟨?hwrr28, ?hyrr28⟩) (by assumption) ?hrrr28
          case hirr28 => (simp only [List.getElem?_toArray, List.getElem?_cons_succ, List.getElem?_cons_zero]; rfl)
          case hqrr28 => exact fun _ _ _ h => h
          case hwrr28 => rfl
          case hyrr28 => (intro w0 hSw; (try dsimp only at hSw); go_simp; try with_reducible rfl)
          (try simp only [Act.put, List.setIfInBounds_toArray, List.set_cons_zero, List.set_cons_succ])
          refine' wpAnyH_take (i := 29) ?hirr29 (by kernel_rfl) (by kernel_rfl) (by kernel_rfl) ?hqrr29 (Or.inl ⟨?hwrr29, ?hyrr29⟩) (by assumption) ?hrrr29
          case hirr29 => (simp only [List.getElem?_toArray, List.getElem?_cons_succ, List.getElem?_cons_zero]; rfl)
          case hqrr29 => exact fun _ _ _ h => h
          case hwrr29 => rfl
          case hyrr29 => (intro w0 hSw; (try dsimp only at hSw); go_simp; try with_reducible rfl)
          (try simp only [Act.put, List.setIfInBounds_toArray, List.set_cons_zero, List.set_cons_succ])
          refine' wpAnyH_take (i := 30) ?hirr30 (by kernel_rfl) (by kernel_rfl) (by kernel_rfl) ?hqrr30 (Or.inl ⟨?hwrr30, ?hyrr30⟩) (by assumption) ?hrrr30
          case hirr30 => (simp only [List.getElem?_toArray, List.getElem?_cons_succ, List.getElem?_cons_zero]; rfl)
          case hqrr30 => exact fun _ _ _ h => h
          case hwrr30 => rfl
          case hyrr30 => (intro w0 hSw; (try dsimp only at hSw); go_simp; try with_reducible rfl)
          (try simp only [Act.put, List.setIfInBounds_toArray, List.set_cons_zero, List.set_cons_succ])
          refine' wpAnyH_take (i := 31) ?hirr31 (by kernel_rfl) (by kernel_rfl) (by kernel_rfl) ?hqrr31 (Or.inl ⟨?hwrr31, ?hyrr31⟩) (by assumption) ?hrrr31
          case hirr31 => (simp only [List.getElem?_toArray, List.getElem?_cons_succ, List.getElem?_cons_zero]; rfl)
          case hqrr31 => exact fun _ _ _ h => h
          case hwrr31 => rfl
          case hyrr31 => (intro w0 hSw; (try dsimp only at hSw); go_simp; try with_reducible rfl)
          (try simp only [Act.put, List.setIfInBounds_toArray, List.set_cons_zero, List.set_cons_succ])
          refine' wpAnyH_take (i := 32) ?hirr32 (by kernel_rfl) (by kernel_rfl) (by kernel_rfl) ?hqrr32 (Or.inl ⟨?hwrr32, ?hyrr32⟩) (by assumption) ?hrrr32
          case hirr32 => (simp only [List.getElem?_toArray, List.getElem?_cons_succ, List.getElem?_cons_zero]; rfl)
          case hqrr32 => exact fun _ _ _ h => h
          case hwrr32 => rfl
          case hyrr32 => (intro w0 hSw; (try dsimp only at hSw); go_simp; try with_reducible rfl)
          (try simp only [Act.put, List.setIfInBounds_toArray, List.set_cons_zero, List.set_cons_succ])
          refine' wpAnyH_take (i := 33) ?hirr33 (by kernel_rfl) (by kernel_rfl) (by kernel_rfl) ?hqrr33 (Or.inl ⟨?hwrr33, ?hyrr33⟩) (by assumption) ?hrrr33
          case hirr33 => (simp only [List.getElem?_toArray, List.getElem?_cons_succ, List.getElem?_cons_zero]; rfl)
          case hqrr33 => exact fun _ _ _ h => h
          case hwrr33 => rfl
          case hyrr33 => (intro w0 hSw; (try dsimp only at hSw); go_simp; try with_reducible rfl)
          (try simp only [Act.put, List.setIfInBounds_toArray, List.set_cons_zero, List.set_cons_succ])
          refine wpAnyH_ready (rs := [23]) (by kernel_rfl) (by simp) ?_
          refine' AllReadyH.cons ?hirr23 (fun K hK => ?hrrr23) AllReadyH.nil
          case hirr23 => (simp only [List.getElem?_toArray, List.getElem?_cons_succ, List.getElem?_cons_zero]; rfl)
          go_simp
          refine (HI.out.tail G p s' m' _ H5.out.t H5.out.b).mono ?_; rw [← HT0.out]; rintro e wH6 ⟨rfl, hbH6⟩; have H6 := Lib.hid (H5.out.next HI.out hbH6); have y0 : wH6.cell? ⟨X, 0, none⟩ = some (.string t) := (by rw [HTT.out]; exact H6.out.cellX.1); have y1 := H6.out.cellX.2.1
          refine hK.out _ _ ?_ (fun hHeld => ?_)
          · exact ⟨y0, y1⟩
          clear hK K
          (try simp only [Act.put, List.setIfInBounds_toArray, List.set_cons_zero, List.set_cons_succ])
          refine' wpAnyH_take (i := 34) ?hirr34 (by kernel_rfl) (by kernel_rfl) (by kernel_rfl) ?hqrr34 (Or.inl ⟨?hwrr34, ?hyrr34⟩) (by assumption) ?hrrr34
          case hirr34 => (simp only [List.getElem?_toArray, List.getElem?_cons_succ, List.getElem?_cons_zero]; rfl)
          case hqrr34 => exact fun _ _ _ h => h
          case hwrr34 => rfl
          case hyrr34 => (intro w0 hSw; (try dsimp only at hSw); go_simp; try with_reducible rfl)
          (try simp only [Act.put, List.setIfInBounds_toArray, List.set_cons_zero, List.set_cons_succ])
          refine' wpAnyH_take (i := 35) ?hirr35 (by kernel_rfl) (by kernel_rfl) (by kernel_rfl) ?hqrr35 (Or.inl ⟨?hwrr35, ?hyrr35⟩) (by assumption) ?hrrr35
          case hirr35 => (simp only [List.getElem?_toArray, List.getElem?_cons_succ, List.getElem?_cons_zero]; rfl)
          case hqrr35 => exact fun _ _ _ h => h
          case hwrr35 => rfl
          case hyrr35 => (intro w0 hSw; (try dsimp only at hSw); go_simp; try with_reducible rfl)
          (try simp only [Act.put, List.setIfInBounds_toArray, List.set_cons_zero, List.set_cons_succ])
          refine wpAnyH_done (by kernel_rfl) ?_ _
          go_wp2_with fail
          go_roundg (60 - k)
          case measure => omega
          case rel => exact ⟨k + 1, s', m', by go_num, hkn, hk2, by omega, hs', hm', Lib.hid H6.out⟩
    · have hend : ((k : Int) < (n : Int) ∧ (k : Int) < 60) = False := by simp; omega
      by_cases hkn : (k : Int) < (n : Int)
      · have hk6 : ¬ (k : Int) < 60 := by omega
        go_wp2_with (go_at_call 16; (with_reducible refine (awake_any HI.out _ HP2.out.t).mono ?_); rintro e w6 ⟨rfl, hb6⟩)
        go_ret
        exact ⟨rfl, HP2.out.below.trans (hb6.mono HP2.out.below.size)⟩
      · go_wp2_with (go_at_call 16; (with_reducible refine (awake_any HI.out _ HP2.out.t).mono ?_); rintro e w6 ⟨rfl, hb6⟩)
        go_ret
        exact ⟨rfl, HP2.out.below.trans (hb6.mono HP2.out.below.size)⟩
end
end Go.Proofs.Ytgehhadnjllkdaa.bk
