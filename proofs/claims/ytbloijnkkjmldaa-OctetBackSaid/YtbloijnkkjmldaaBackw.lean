/-
  OctetBack's walk.
-/
import Derived.Test.YtbloijnkkjmldaaActs
import Derived.Test.YtbloijnkkjmldaaBackp
import Derived.Deep.RegionHeld3
import Derived.Deep.RegionWith
import Derived.Deep.DeepCutAuto
import Derived.Deep.CutBlock
import Derived.Deep.CutRange
import Derived.Outline
namespace Go.Proofs.Ytbloijnkkjmldaa.oct
open Go.RowKit

theorem Turn.undrew {F : Nat → Prop} {w w' : World} (h : Turn F w.drew w') : Turn F w w' := ⟨h.os, h.tape, h.output, h.size, h.block⟩

theorem bkeep2 {w w' : World} {b x y : Nat} {u1 u2 : Value} (hb : b < w.heap.size) (h1 : w.cell? ⟨b, x, none⟩ = some u1) (h2 : w.cell? ⟨b, y, none⟩ = some u2) (h : Below w.heap.size w w') :
    w'.cell? ⟨b, x, none⟩ = some u1 ∧ w'.cell? ⟨b, y, none⟩ = some u2 := ⟨(h.cell hb).trans h1, (h.cell hb).trans h2⟩

set_option maxHeartbeats 4000000 in
set_option maxRecDepth 100000 in
theorem back_walk (s : ByteArray) (ad : Option Addr) (n cap : Nat) (K N Z : Nat → Int) (S : Nat → ByteArray) (w : World) (hs : s.size ≤ 140737488351232) (hl : n ≤ 9223372036854775807) (hA : Acts w ad n K N Z S) :
    Calls Try.prog 5 #[.slice ad n cap, .string s] w fun e w' => e = .returned (.bool true) ∧ Below w.heap.size w w' := by
  go_enter Try.func5, Try.ntmps5
  go_upto_block 0 with (go_at_call 8; refine (new_any _).mono ?_; rintro e w1 ⟨rfl, hw1, hb1⟩; have hW1 : WrIs w1 (w.heap.size ≤ ·) w.heap.size [] 0 := WrIs.new hw1 (Nat.le_refl _))
  clear hw1
  generalize hG : w.heap.size = G at *
  go_cut [6] from 12 to 46 (fun _ wx => ∃ m, m ≤ n ∧ m ≤ 40 ∧ (m = n ∨ m = 40) ∧ WrIs wx (G ≤ ·) G (wAll K N Z S m).1 (wAll K N Z S m).2 ∧ Below G w wx)
  case first =>
    go_wp2_with fail
    go_loopw [6] (fun i wr => ∃ k : Nat, k ≤ n ∧ k ≤ 40 ∧ i = .int .i64 k ∧ WrIs wr (G ≤ ·) G (wAll K N Z S k).1 (wAll K N Z S k).2 ∧ Below G w wr) (fun i _ => 40 - (intOf i).toNat)
    case atStart => exact ⟨0, Nat.zero_le _, Nat.zero_le _, rfl, hW1, hb1⟩
    case round =>
      obtain ⟨k, hk, hk40, rfl, hWk, hBk⟩ := hrel
      have hNew : New (G ≤ ·) wr := fun j hj => Nat.le_trans (by have := hBk.size; omega) hj
      have hlen := wAll_len K N Z S k
      have hlen2 : (wAll K N Z S k).1.length ≤ 2621480 := by omega
      clear hlen
      by_cases hlt : k < n ∧ k < 40
      · obtain ⟨hkn, hk2⟩ := hlt
        obtain ⟨b, off, rfl, hbl, a0, a1, a2, a3, hN, hS⟩ := hA k hkn
        rw [hG] at hbl
        replace a0 := (hBk.cell hbl).trans a0
        replace a1 := (hBk.cell hbl).trans a1
        replace a2 := (hBk.cell hbl).trans a2
        replace a3 := (hBk.cell hbl).trans a3
        have hK1 : ∀ wx {i : Nat}, Below G wr wx → wx.cell? ⟨b, i, none⟩ = wr.cell? ⟨b, i, none⟩ := fun wx i h => h.cell hbl
        have i0 : (0 : Int) ≤ (k : Int) := Int.natCast_nonneg _
        have i1 : (k : Int) < (n : Int) := by omega
        have i2 : (k : Int) < 40 := by omega
        by_cases h0 : K k = 0
        · have hst : wAll K N Z S (k + 1) = wNum (wAll K N Z S k) (N k) (Z k) := by show wAct K N Z S (wAll K N Z S k) k = _; unfold wAct; rw [if_pos h0]
          have HST := Lib.hid hst
          clear hst
          rw [h0] at a0
          clear h0
          go_upto_region 6 with fail
          go_region_held3 (fun w' => w'.cell? ⟨b, off + k * 4 + 1, none⟩ = some (.int .i64 (N k)) ∧ w'.cell? ⟨b, off + k * 4 + 2, none⟩ = some (.int .i64 (Z k)))
            (first | exact ⟨a1, a2⟩ | exact ⟨(hK1 _ (by assumption)).trans a1, (hK1 _ (by assumption)).trans a2⟩)
            (first
              | (go_at_call 10; refine (num_any (G ≤ ·) G _ _ (N k) (Z k) _ (by exact hWk) (by exact hNew) (by omega) hN).mono ?_; rw [show wNum ((wAll K N Z S k).1, (wAll K N Z S k).2) (N k) (Z k) = wAll K N Z S (k + 1) from HST.out.symm]; rintro e wA ⟨rfl, hWA, hTA⟩; have hBA : Below G wr wA := Turn.below (Turn.undrew hTA) (fun _ h => h)))
          go_wp2
          go_roundw
          case rel => exact ⟨k + 1, by omega, by omega, by go_num, hWA, hBk.trans hBA⟩
          case measure => simp [intOf]; omega
        · have h0' : (K k == 0) = false := by simpa using h0
          have hst : wAll K N Z S (k + 1) = wText (wAll K N Z S k) (S k) := by show wAct K N Z S (wAll K N Z S k) k = _; unfold wAct; rw [if_neg h0]
          have HST := Lib.hid hst
          clear hst h0
          go_wp2_with (go_at_call 12; refine (text_any (G ≤ ·) G _ _ (S k) _ hWk hNew (by intros; omega)).mono ?_; rw [show wText ((wAll K N Z S k).1, (wAll K N Z S k).2) (S k) = wAll K N Z S (k + 1) from HST.out.symm]; rintro e wA ⟨rfl, hWA, hTA⟩; have hBA : Below G wr wA := Turn.below hTA (fun _ h => h))
          go_roundw
          case rel => exact ⟨k + 1, by omega, by omega, by go_num, hWA, hBk.trans hBA⟩
          case measure => simp [intOf]; omega
      · by_cases hkn : k < n
        · obtain rfl : k = 40 := by omega
          go_wp2_with fail
          go_meet
          exact ⟨40, hk, Nat.le_refl _, .inr rfl, hWk, hBk⟩
        · have i3 : ¬ (k : Int) < (n : Int) := by omega
          go_wp2_with fail
          go_meet
          exact ⟨k, hk, hk40, .inl (by omega), hWk, hBk⟩
  case rest =>
    obtain ⟨m, hmn, hm40, hm, hWm, hBm⟩ := hcut
    have hNew : New (G ≤ ·) wc := fun j hj => Nat.le_trans (by have := hBm.size; omega) hj
    have hok := wAll_ok K N Z S m
    have hlen := wAll_len K N Z S m
    generalize wAll K N Z S m = st at hWm hok hlen
    obtain ⟨out, err⟩ := st
    simp only at hWm hok hlen
    by_cases he : err = 0
    · subst he
      obtain ⟨rfl, hok2⟩ := hok rfl
      have HOK := Lib.hid hok2
      clear hok hok2
      have hD : wDone (flat K N Z S m, 0) = (tx (flat K N Z S m), 0) := rfl
      have hadd : ∀ u : World, (Op.stringOp .add (tx (flat K N Z S m)) s).run Try.prog u = .ok (.string (tx (flat K N Z S m ++ s.data.toList))) u := fun u => by
        rw [run_string_add_sum u _ _ (by rw [tx_size]; omega)]
        have e : tx (flat K N Z S m) ++ s = tx (flat K N Z S m ++ s.data.toList) := by
          apply bytes_ext
          rw [tx_list, ByteArray.data_append, Array.toList_append]
          simp [tx]
        rw [e]
      have hfl : (flat K N Z S m ++ s.data.toList).length ≤ 140737491000000 := by
        have e : s.data.toList.length = s.size := by rw [Array.length_toList]; rfl
        rw [List.length_append, e]; omega
      rw [← rest_zero] at hadd
      clear hlen
      go_wp2_with (first
        | (go_at_call 14; refine (done_any (G ≤ ·) G _ _ _ hWm).mono ?_; rw [hD]; rintro e w4 ⟨rfl, rfl⟩)
        | (go_at_call 16; refine (open_any _ _).mono ?_; rintro e w5 ⟨rfl, hR5, hb5⟩))
      have hRG : G ≤ wc.heap.size := by have := hBm.size; omega
      have hB5 : Below G w w5 := hBm.trans (hb5.mono hRG)
      generalize hR : wc.heap.size = R at *
      have hlr : ∀ k, (tx (rest K N Z S m s.data.toList k)).size ≤ 140737491000000 := fun k => by
        rw [tx_size]
        unfold rest
        rw [List.length_drop]
        omega
      have hstep := rest_step K N Z S m s.data.toList
      have hend := rest_end K N Z S m s.data.toList
      have HSTEP := Lib.hid hstep
      have HEND := Lib.hid hend
      clear hstep hend hWm hadd hfl hNew hb5 hBm hb1 hW1
      go_loopw [10] (fun i wr => ∃ k : Nat, k ≤ m ∧ i = .int .i64 k ∧ RBlk wr R (tx (rest K N Z S m s.data.toList k)) 0 ∧ Below G w wr) (fun i _ => 40 - (intOf i).toNat)
      case atStart => exact ⟨0, Nat.zero_le _, rfl, hR5, hB5⟩
      case round =>
        obtain ⟨k, hkm, rfl, hRk, hBk⟩ := hrel
        clear hR5 hB5
        have hlk := hlr k
        have hNew : New (Only wr R) wr := Only.new _ _
        by_cases hlt : k < m
        · have hkn : k < n := by omega
          obtain ⟨b, off, rfl, hbl, a0, a1, a2, a3, hN, hS⟩ := hA k hkn
          rw [hG] at hbl
          replace a0 := (hBk.cell hbl).trans a0
          replace a1 := (hBk.cell hbl).trans a1
          replace a2 := (hBk.cell hbl).trans a2
          replace a3 := (hBk.cell hbl).trans a3
          have hlR := Blk.lt hRk
          have hK1 : ∀ wx {i : Nat} {v : Value}, Turn (Only wr R) wr wx → wr.cell? ⟨b, i, none⟩ = some v → wx.cell? ⟨b, i, none⟩ = some v := fun wx i v ht h => by
            have e : wx.cell? ⟨b, i, none⟩ = wr.cell? ⟨b, i, none⟩ := World.cell?_of_block (w := wr) (a := ⟨b, i, none⟩) (ht.block b (by rintro (h | h) <;> omega))
            exact e.trans h
          have i0 : (0 : Int) ≤ (k : Int) := Int.natCast_nonneg _
          have i1 : (k : Int) < (n : Int) := by omega
          have i2 : (k : Int) < 40 := by omega
          have hokk := HOK.out k hlt
          have hsk := HSTEP.out k hlt
          unfold okA at hokk
          unfold enc at hsk
          by_cases h0 : K k = 0
          · rw [if_pos h0] at hokk hsk
            rw [h0] at a0
            have hrd := rnum_be hokk (rest K N Z S m s.data.toList (k + 1))
            rw [← hsk] at hrd
            have HRD := Lib.hid hrd
            clear hrd hsk hokk h0
            go_upto_region 15 with fail
            refine wp_region_held_drew (S := fun w' => w'.cell? ⟨b, off + k * 4, none⟩ = some (.int .i64 0) ∧ w'.cell? ⟨b, off + k * 4 + 1, none⟩ = some (.int .i64 (N k)) ∧ w'.cell? ⟨b, off + k * 4 + 2, none⟩ = some (.int .i64 (Z k))) (by kernel_rfl) ?_ (fun hHeld => ?_)
            · exact ⟨a0, a1, a2⟩
            refine' wpAnyH_take (i := 0) ?hip0 (by kernel_rfl) (by kernel_rfl) (by kernel_rfl) ?hqp0 (Or.inl ⟨?hwp0, ?hyp0⟩) (by assumption) ?hrp0
            case hip0 => (simp only [List.getElem?_toArray, List.getElem?_cons_succ, List.getElem?_cons_zero]; rfl)
            case hqp0 => exact fun _ _ _ h => h
            case hwp0 => rfl
            case hyp0 => (intro w0 hSw; (try dsimp only at hSw); go_simp; try with_reducible rfl)
            simp only [Act.put, List.setIfInBounds_toArray, List.set_cons_zero, List.set_cons_succ]
            refine' wpAnyH_take (i := 1) ?hip1 (by kernel_rfl) (by kernel_rfl) (by kernel_rfl) ?hqp1 (Or.inl ⟨?hwp1, ?hyp1⟩) (by assumption) ?hrp1
            case hip1 => (simp only [List.getElem?_toArray, List.getElem?_cons_succ, List.getElem?_cons_zero]; rfl)
            case hqp1 => exact fun _ _ _ h => h
            case hwp1 => rfl
            case hyp1 => (intro w0 hSw; (try dsimp only at hSw); go_simp; try with_reducible rfl)
            simp only [Act.put, List.setIfInBounds_toArray, List.set_cons_zero, List.set_cons_succ]
            refine' wpAnyH_take (i := 2) ?hip2 (by kernel_rfl) (by kernel_rfl) (by kernel_rfl) ?hqp2 (Or.inl ⟨?hwp2, ?hyp2⟩) (by assumption) ?hrp2
            case hip2 => (simp only [List.getElem?_toArray, List.getElem?_cons_succ, List.getElem?_cons_zero]; rfl)
            case hqp2 => exact fun _ _ _ h => h
            case hwp2 => rfl
            case hyp2 => (intro w0 hSw; (try dsimp only at hSw); go_simp; try with_reducible rfl)
            simp only [Act.put, List.setIfInBounds_toArray, List.set_cons_zero, List.set_cons_succ]
            refine' wpAnyH_take (i := 3) ?hip3 (by kernel_rfl) (by kernel_rfl) (by kernel_rfl) ?hqp3 (Or.inl ⟨?hwp3, ?hyp3⟩) (by assumption) ?hrp3
            case hip3 => (simp only [List.getElem?_toArray, List.getElem?_cons_succ, List.getElem?_cons_zero]; rfl)
            case hqp3 => exact fun _ _ _ h => h
            case hwp3 => rfl
            case hyp3 => (intro w0 hSw; (try dsimp only at hSw); go_simp; try with_reducible rfl)
            simp only [Act.put, List.setIfInBounds_toArray, List.set_cons_zero, List.set_cons_succ]
            refine' wpAnyH_take (i := 4) ?hip4 (by kernel_rfl) (by kernel_rfl) (by kernel_rfl) ?hqp4 (Or.inl ⟨?hwp4, ?hyp4⟩) (by assumption) ?hrp4
            case hip4 => (simp only [List.getElem?_toArray, List.getElem?_cons_succ, List.getElem?_cons_zero]; rfl)
            case hqp4 => exact fun _ _ _ h => h
            case hwp4 => rfl
            case hyp4 => (intro w0 hSw; (try dsimp only at hSw); go_simp; try with_reducible rfl)
            simp only [Act.put, List.setIfInBounds_toArray, List.set_cons_zero, List.set_cons_succ]
            refine' wpAnyH_take (i := 5) ?hip5 (by kernel_rfl) (by kernel_rfl) (by kernel_rfl) ?hqp5 (Or.inl ⟨?hwp5, ?hyp5⟩) (by assumption) ?hrp5
            case hip5 => (simp only [List.getElem?_toArray, List.getElem?_cons_succ, List.getElem?_cons_zero]; rfl)
            case hqp5 => exact fun _ _ _ h => h
            case hwp5 => rfl
            case hyp5 => (intro w0 hSw; (try dsimp only at hSw); go_simp; try with_reducible rfl)
            simp only [Act.put, List.setIfInBounds_toArray, List.set_cons_zero, List.set_cons_succ]
            refine' wpAnyH_take (i := 6) ?hip6 (by kernel_rfl) (by kernel_rfl) (by kernel_rfl) ?hqp6 (Or.inl ⟨?hwp6, ?hyp6⟩) (by assumption) ?hrp6
            case hip6 => (simp only [List.getElem?_toArray, List.getElem?_cons_succ, List.getElem?_cons_zero]; rfl)
            case hqp6 => exact fun _ _ _ h => h
            case hwp6 => rfl
            case hyp6 => (intro w0 hSw; (try dsimp only at hSw); go_simp; try with_reducible rfl)
            simp only [Act.put, List.setIfInBounds_toArray, List.set_cons_zero, List.set_cons_succ]
            refine' wpAnyH_take (i := 7) ?hip7 (by kernel_rfl) (by kernel_rfl) (by kernel_rfl) ?hqp7 (Or.inl ⟨?hwp7, ?hyp7⟩) (by assumption) ?hrp7
            case hip7 => (simp only [List.getElem?_toArray, List.getElem?_cons_succ, List.getElem?_cons_zero]; rfl)
            case hqp7 => exact fun _ _ _ h => h
            case hwp7 => rfl
            case hyp7 => (intro w0 hSw; (try dsimp only at hSw); go_simp; try with_reducible rfl)
            simp only [Act.put, List.setIfInBounds_toArray, List.set_cons_zero, List.set_cons_succ]
            refine' wpAnyH_take (i := 8) ?hip8 (by kernel_rfl) (by kernel_rfl) (by kernel_rfl) ?hqp8 (Or.inl ⟨?hwp8, ?hyp8⟩) (by assumption) ?hrp8
            case hip8 => (simp only [List.getElem?_toArray, List.getElem?_cons_succ, List.getElem?_cons_zero]; rfl)
            case hqp8 => exact fun _ _ _ h => h
            case hwp8 => rfl
            case hyp8 => (intro w0 hSw; (try dsimp only at hSw); go_simp; try with_reducible rfl)
            simp only [Act.put, List.setIfInBounds_toArray, List.set_cons_zero, List.set_cons_succ]
            refine' wpAnyH_take (i := 9) ?hip9 (by kernel_rfl) (by kernel_rfl) (by kernel_rfl) ?hqp9 (Or.inl ⟨?hwp9, ?hyp9⟩) (by assumption) ?hrp9
            case hip9 => (simp only [List.getElem?_toArray, List.getElem?_cons_succ, List.getElem?_cons_zero]; rfl)
            case hqp9 => exact fun _ _ _ h => h
            case hwp9 => rfl
            case hyp9 => (intro w0 hSw; (try dsimp only at hSw); go_simp; try with_reducible rfl)
            simp only [Act.put, List.setIfInBounds_toArray, List.set_cons_zero, List.set_cons_succ]
            refine' wpAnyH_take (i := 10) ?hip10 (by kernel_rfl) (by kernel_rfl) (by kernel_rfl) ?hqp10 (Or.inl ⟨?hwp10, ?hyp10⟩) (by assumption) ?hrp10
            case hip10 => (simp only [List.getElem?_toArray, List.getElem?_cons_succ, List.getElem?_cons_zero]; rfl)
            case hqp10 => exact fun _ _ _ h => h
            case hwp10 => rfl
            case hyp10 => (intro w0 hSw; (try dsimp only at hSw); go_simp; try with_reducible rfl)
            simp only [Act.put, List.setIfInBounds_toArray, List.set_cons_zero, List.set_cons_succ]
            refine' wpAnyH_take (i := 11) ?hip11 (by kernel_rfl) (by kernel_rfl) (by kernel_rfl) ?hqp11 (Or.inl ⟨?hwp11, ?hyp11⟩) (by assumption) ?hrp11
            case hip11 => (simp only [List.getElem?_toArray, List.getElem?_cons_succ, List.getElem?_cons_zero]; rfl)
            case hqp11 => exact fun _ _ _ h => h
            case hwp11 => rfl
            case hyp11 => (intro w0 hSw; (try dsimp only at hSw); go_simp; try with_reducible rfl)
            simp only [Act.put, List.setIfInBounds_toArray, List.set_cons_zero, List.set_cons_succ]
            refine' wpAnyH_take (i := 12) ?hip12 (by kernel_rfl) (by kernel_rfl) (by kernel_rfl) ?hqp12 (Or.inl ⟨?hwp12, ?hyp12⟩) (by assumption) ?hrp12
            case hip12 => (simp only [List.getElem?_toArray, List.getElem?_cons_succ, List.getElem?_cons_zero]; rfl)
            case hqp12 => exact fun _ _ _ h => h
            case hwp12 => rfl
            case hyp12 => (intro w0 hSw; (try dsimp only at hSw); go_simp; try with_reducible rfl)
            simp only [Act.put, List.setIfInBounds_toArray, List.set_cons_zero, List.set_cons_succ]
            refine' wpAnyH_take (i := 14) ?hip14 (by kernel_rfl) (by kernel_rfl) (by kernel_rfl) ?hqp14 (Or.inl ⟨?hwp14, ?hyp14⟩) (by assumption) ?hrp14
            case hip14 => (simp only [List.getElem?_toArray, List.getElem?_cons_succ, List.getElem?_cons_zero]; rfl)
            case hqp14 => exact fun _ _ _ h => h
            case hwp14 => rfl
            case hyp14 => (intro w0 hSw; (try dsimp only at hSw); go_simp; try with_reducible rfl)
            simp only [Act.put, List.setIfInBounds_toArray, List.set_cons_zero, List.set_cons_succ]
            refine' wpAnyH_take (i := 15) ?hip15 (by kernel_rfl) (by kernel_rfl) (by kernel_rfl) ?hqp15 (Or.inl ⟨?hwp15, ?hyp15⟩) (by assumption) ?hrp15
            case hip15 => (simp only [List.getElem?_toArray, List.getElem?_cons_succ, List.getElem?_cons_zero]; rfl)
            case hqp15 => exact fun _ _ _ h => h
            case hwp15 => rfl
            case hyp15 => (intro w0 hSw; (try dsimp only at hSw); go_simp; try with_reducible rfl)
            simp only [Act.put, List.setIfInBounds_toArray, List.set_cons_zero, List.set_cons_succ]
            refine' wpAnyH_take (i := 16) ?hip16 (by kernel_rfl) (by kernel_rfl) (by kernel_rfl) ?hqp16 (Or.inl ⟨?hwp16, ?hyp16⟩) (by assumption) ?hrp16
            case hip16 => (simp only [List.getElem?_toArray, List.getElem?_cons_succ, List.getElem?_cons_zero]; rfl)
            case hqp16 => exact fun _ _ _ h => h
            case hwp16 => rfl
            case hyp16 => (intro w0 hSw; (try dsimp only at hSw); go_simp; try with_reducible rfl)
            simp only [Act.put, List.setIfInBounds_toArray, List.set_cons_zero, List.set_cons_succ]
            refine' wpAnyH_take (i := 17) ?hip17 (by kernel_rfl) (by kernel_rfl) (by kernel_rfl) ?hqp17 (Or.inl ⟨?hwp17, ?hyp17⟩) (by assumption) ?hrp17
            case hip17 => (simp only [List.getElem?_toArray, List.getElem?_cons_succ, List.getElem?_cons_zero]; rfl)
            case hqp17 => exact fun _ _ _ h => h
            case hwp17 => rfl
            case hyp17 => (intro w0 hSw; (try dsimp only at hSw); go_simp; try with_reducible rfl)
            simp only [Act.put, List.setIfInBounds_toArray, List.set_cons_zero, List.set_cons_succ]
            refine' wpAnyH_take (i := 18) ?hip18 (by kernel_rfl) (by kernel_rfl) (by kernel_rfl) ?hqp18 (Or.inl ⟨?hwp18, ?hyp18⟩) (by assumption) ?hrp18
            case hip18 => (simp only [List.getElem?_toArray, List.getElem?_cons_succ, List.getElem?_cons_zero]; rfl)
            case hqp18 => exact fun _ _ _ h => h
            case hwp18 => rfl
            case hyp18 => (intro w0 hSw; (try dsimp only at hSw); go_simp; try with_reducible rfl)
            simp only [Act.put, List.setIfInBounds_toArray, List.set_cons_zero, List.set_cons_succ]
            refine wpAnyH_ready (rs := [13]) (by kernel_rfl) (by simp) ?_
            refine' AllReadyH.cons ?hip13 (fun K hK => ?hrp13) AllReadyH.nil
            case hip13 => (simp only [List.getElem?_toArray, List.getElem?_cons_succ, List.getElem?_cons_zero]; rfl)
            go_simp
            (refine (rnum_any (Only wr R) R _ _ (Z k) _ (by exact hRk) (Only.self _ _) (by exact hNew)).mono ?_; rw [HRD.out]; rintro e wA ⟨rfl, hRA, hTA⟩; clear hHeld)
            refine hK.out _ _ ?_ (fun hHeld => ?_)
            · exact ⟨hK1 _ (Turn.undrew hTA) a0, hK1 _ (Turn.undrew hTA) a1, hK1 _ (Turn.undrew hTA) a2⟩
            clear hK K
            simp only [Act.put, List.setIfInBounds_toArray, List.set_cons_zero, List.set_cons_succ]
            refine' wpAnyH_take (i := 19) ?hip19 (by kernel_rfl) (by kernel_rfl) (by kernel_rfl) ?hqp19 (Or.inl ⟨?hwp19, ?hyp19⟩) (by assumption) ?hrp19
            case hip19 => (simp only [List.getElem?_toArray, List.getElem?_cons_succ, List.getElem?_cons_zero]; rfl)
            case hqp19 => exact fun _ _ _ h => h
            case hwp19 => rfl
            case hyp19 => (intro w0 hSw; (try dsimp only at hSw); go_simp; try with_reducible rfl)
            simp only [Act.put, List.setIfInBounds_toArray, List.set_cons_zero, List.set_cons_succ]
            refine' wpAnyH_take (i := 20) ?hip20 (by kernel_rfl) (by kernel_rfl) (by kernel_rfl) ?hqp20 (Or.inl ⟨?hwp20, ?hyp20⟩) (by assumption) ?hrp20
            case hip20 => (simp only [List.getElem?_toArray, List.getElem?_cons_succ, List.getElem?_cons_zero]; rfl)
            case hqp20 => exact fun _ _ _ h => h
            case hwp20 => rfl
            case hyp20 => (intro w0 hSw; (try dsimp only at hSw); go_simp; try with_reducible rfl)
            simp only [Act.put, List.setIfInBounds_toArray, List.set_cons_zero, List.set_cons_succ]
            refine' wpAnyH_take (i := 21) ?hip21 (by kernel_rfl) (by kernel_rfl) (by kernel_rfl) ?hqp21 (Or.inl ⟨?hwp21, ?hyp21⟩) (by assumption) ?hrp21
            case hip21 => (simp only [List.getElem?_toArray, List.getElem?_cons_succ, List.getElem?_cons_zero]; rfl)
            case hqp21 => exact fun _ _ _ h => h
            case hwp21 => rfl
            case hyp21 => (intro w0 hSw; (try dsimp only at hSw); go_simp; try with_reducible rfl)
            simp only [Act.put, List.setIfInBounds_toArray, List.set_cons_zero, List.set_cons_succ]
            refine' wpAnyH_take (i := 22) ?hip22 (by kernel_rfl) (by kernel_rfl) (by kernel_rfl) ?hqp22 (Or.inl ⟨?hwp22, ?hyp22⟩) (by assumption) ?hrp22
            case hip22 => (simp only [List.getElem?_toArray, List.getElem?_cons_succ, List.getElem?_cons_zero]; rfl)
            case hqp22 => exact fun _ _ _ h => h
            case hwp22 => rfl
            case hyp22 => (intro w0 hSw; (try dsimp only at hSw); go_simp; try with_reducible rfl)
            simp only [Act.put, List.setIfInBounds_toArray, List.set_cons_zero, List.set_cons_succ]
            refine' wpAnyH_take (i := 23) ?hip23 (by kernel_rfl) (by kernel_rfl) (by kernel_rfl) ?hqp23 (Or.inl ⟨?hwp23, ?hyp23⟩) (by assumption) ?hrp23
            case hip23 => (simp only [List.getElem?_toArray, List.getElem?_cons_succ, List.getElem?_cons_zero]; rfl)
            case hqp23 => exact fun _ _ _ h => h
            case hwp23 => rfl
            case hyp23 => (intro w0 hSw; (try dsimp only at hSw); go_simp; try with_reducible rfl)
            simp only [Act.put, List.setIfInBounds_toArray, List.set_cons_zero, List.set_cons_succ]
            refine' wpAnyH_take (i := 24) ?hip24 (by kernel_rfl) (by kernel_rfl) (by kernel_rfl) ?hqp24 (Or.inl ⟨?hwp24, ?hyp24⟩) (by assumption) ?hrp24
            case hip24 => (simp only [List.getElem?_toArray, List.getElem?_cons_succ, List.getElem?_cons_zero]; rfl)
            case hqp24 => exact fun _ _ _ h => h
            case hwp24 => rfl
            case hyp24 => (intro w0 hSw; (try dsimp only at hSw); go_simp; try with_reducible rfl)
            simp only [Act.put, List.setIfInBounds_toArray, List.set_cons_zero, List.set_cons_succ]
            refine' wpAnyH_take (i := 25) ?hip25 (by kernel_rfl) (by kernel_rfl) (by kernel_rfl) ?hqp25 (Or.inl ⟨?hwp25, ?hyp25⟩) (by assumption) ?hrp25
            case hip25 => (simp only [List.getElem?_toArray, List.getElem?_cons_succ, List.getElem?_cons_zero]; rfl)
            case hqp25 => exact fun _ _ _ h => h
            case hwp25 => rfl
            case hyp25 => (intro w0 hSw; (try dsimp only at hSw); go_simp; try with_reducible rfl)
            simp only [Act.put, List.setIfInBounds_toArray, List.set_cons_zero, List.set_cons_succ]
            refine' wpAnyH_take (i := 26) ?hip26 (by kernel_rfl) (by kernel_rfl) (by kernel_rfl) ?hqp26 (Or.inl ⟨?hwp26, ?hyp26⟩) (by assumption) ?hrp26
            case hip26 => (simp only [List.getElem?_toArray, List.getElem?_cons_succ, List.getElem?_cons_zero]; rfl)
            case hqp26 => exact fun _ _ _ h => h
            case hwp26 => rfl
            case hyp26 => (intro w0 hSw; (try dsimp only at hSw); go_simp; try with_reducible rfl)
            simp only [Act.put, List.setIfInBounds_toArray, List.set_cons_zero, List.set_cons_succ]
            refine' wpAnyH_take (i := 27) ?hip27 (by kernel_rfl) (by kernel_rfl) (by kernel_rfl) ?hqp27 (Or.inl ⟨?hwp27, ?hyp27⟩) (by assumption) ?hrp27
            case hip27 => (simp only [List.getElem?_toArray, List.getElem?_cons_succ, List.getElem?_cons_zero]; rfl)
            case hqp27 => exact fun _ _ _ h => h
            case hwp27 => rfl
            case hyp27 => (intro w0 hSw; (try dsimp only at hSw); go_simp; try with_reducible rfl)
            simp only [Act.put, List.setIfInBounds_toArray, List.set_cons_zero, List.set_cons_succ]
            refine' wpAnyH_take (i := 28) ?hip28 (by kernel_rfl) (by kernel_rfl) (by kernel_rfl) ?hqp28 (Or.inl ⟨?hwp28, ?hyp28⟩) (by assumption) ?hrp28
            case hip28 => (simp only [List.getElem?_toArray, List.getElem?_cons_succ, List.getElem?_cons_zero]; rfl)
            case hqp28 => exact fun _ _ _ h => h
            case hwp28 => rfl
            case hyp28 => (intro w0 hSw; (try dsimp only at hSw); go_simp; try with_reducible rfl)
            simp only [Act.put, List.setIfInBounds_toArray, List.set_cons_zero, List.set_cons_succ]
            refine' wpAnyH_take (i := 29) (v := undef) ?hip29 (by kernel_rfl) (by kernel_rfl) (by kernel_rfl) ?hqp29 (Or.inr ⟨?hwp29, rfl⟩) (by assumption) ?hrp29
            case hip29 => (simp only [List.getElem?_toArray, List.getElem?_cons_succ, List.getElem?_cons_zero]; rfl)
            case hqp29 => exact fun _ _ _ h => h
            case hwp29 => rfl
            simp only [Act.put, List.setIfInBounds_toArray, List.set_cons_zero, List.set_cons_succ]
            refine' wpAnyH_take (i := 30) (v := undef) ?hip30 (by kernel_rfl) (by kernel_rfl) (by kernel_rfl) ?hqp30 (Or.inr ⟨?hwp30, rfl⟩) (by assumption) ?hrp30
            case hip30 => (simp only [List.getElem?_toArray, List.getElem?_cons_succ, List.getElem?_cons_zero]; rfl)
            case hqp30 => exact fun _ _ _ h => h
            case hwp30 => rfl
            simp only [Act.put, List.setIfInBounds_toArray, List.set_cons_zero, List.set_cons_succ]
            refine' wpAnyH_take (i := 31) (v := undef) ?hip31 (by kernel_rfl) (by kernel_rfl) (by kernel_rfl) ?hqp31 (Or.inr ⟨?hwp31, rfl⟩) (by assumption) ?hrp31
            case hip31 => (simp only [List.getElem?_toArray, List.getElem?_cons_succ, List.getElem?_cons_zero]; rfl)
            case hqp31 => exact fun _ _ _ h => h
            case hwp31 => rfl
            simp only [Act.put, List.setIfInBounds_toArray, List.set_cons_zero, List.set_cons_succ]
            refine' wpAnyH_take (i := 32) (v := undef) ?hip32 (by kernel_rfl) (by kernel_rfl) (by kernel_rfl) ?hqp32 (Or.inr ⟨?hwp32, rfl⟩) (by assumption) ?hrp32
            case hip32 => (simp only [List.getElem?_toArray, List.getElem?_cons_succ, List.getElem?_cons_zero]; rfl)
            case hqp32 => exact fun _ _ _ h => h
            case hwp32 => rfl
            simp only [Act.put, List.setIfInBounds_toArray, List.set_cons_zero, List.set_cons_succ]
            refine' wpAnyH_take (i := 33) (v := undef) ?hip33 (by kernel_rfl) (by kernel_rfl) (by kernel_rfl) ?hqp33 (Or.inr ⟨?hwp33, rfl⟩) (by assumption) ?hrp33
            case hip33 => (simp only [List.getElem?_toArray, List.getElem?_cons_succ, List.getElem?_cons_zero]; rfl)
            case hqp33 => exact fun _ _ _ h => h
            case hwp33 => rfl
            simp only [Act.put, List.setIfInBounds_toArray, List.set_cons_zero, List.set_cons_succ]
            refine' wpAnyH_take (i := 34) (v := undef) ?hip34 (by kernel_rfl) (by kernel_rfl) (by kernel_rfl) ?hqp34 (Or.inr ⟨?hwp34, rfl⟩) (by assumption) ?hrp34
            case hip34 => (simp only [List.getElem?_toArray, List.getElem?_cons_succ, List.getElem?_cons_zero]; rfl)
            case hqp34 => exact fun _ _ _ h => h
            case hwp34 => rfl
            simp only [Act.put, List.setIfInBounds_toArray, List.set_cons_zero, List.set_cons_succ]
            refine' wpAnyH_take (i := 35) (v := undef) ?hip35 (by kernel_rfl) (by kernel_rfl) (by kernel_rfl) ?hqp35 (Or.inr ⟨?hwp35, rfl⟩) (by assumption) ?hrp35
            case hip35 => (simp only [List.getElem?_toArray, List.getElem?_cons_succ, List.getElem?_cons_zero]; rfl)
            case hqp35 => exact fun _ _ _ h => h
            case hwp35 => rfl
            simp only [Act.put, List.setIfInBounds_toArray, List.set_cons_zero, List.set_cons_succ]
            refine' wpAnyH_take (i := 36) (v := undef) ?hip36 (by kernel_rfl) (by kernel_rfl) (by kernel_rfl) ?hqp36 (Or.inr ⟨?hwp36, rfl⟩) (by assumption) ?hrp36
            case hip36 => (simp only [List.getElem?_toArray, List.getElem?_cons_succ, List.getElem?_cons_zero]; rfl)
            case hqp36 => exact fun _ _ _ h => h
            case hwp36 => rfl
            simp only [Act.put, List.setIfInBounds_toArray, List.set_cons_zero, List.set_cons_succ]
            refine' wpAnyH_take (i := 37) ?hip37 (by kernel_rfl) (by kernel_rfl) (by kernel_rfl) ?hqp37 (Or.inl ⟨?hwp37, ?hyp37⟩) (by assumption) ?hrp37
            case hip37 => (simp only [List.getElem?_toArray, List.getElem?_cons_succ, List.getElem?_cons_zero]; rfl)
            case hqp37 => exact fun _ _ _ h => h
            case hwp37 => rfl
            case hyp37 => (intro w0 hSw; (try dsimp only at hSw); go_simp; try with_reducible rfl)
            simp only [Act.put, List.setIfInBounds_toArray, List.set_cons_zero, List.set_cons_succ]
            refine' wpAnyH_take (i := 38) ?hip38 (by kernel_rfl) (by kernel_rfl) (by kernel_rfl) ?hqp38 (Or.inl ⟨?hwp38, ?hyp38⟩) (by assumption) ?hrp38
            case hip38 => (simp only [List.getElem?_toArray, List.getElem?_cons_succ, List.getElem?_cons_zero]; rfl)
            case hqp38 => exact fun _ _ _ h => h
            case hwp38 => rfl
            case hyp38 => (intro w0 hSw; (try dsimp only at hSw); go_simp; try with_reducible rfl)
            simp only [Act.put, List.setIfInBounds_toArray, List.set_cons_zero, List.set_cons_succ]
            refine wpAnyH_done (by kernel_rfl) ?_ _
            have hBA : Below G wr wA := (Turn.undrew hTA).below (by rintro j (h | h) <;> (have := hBk.size; omega))
            go_wp2
            go_roundw
            case rel => exact ⟨k + 1, by omega, by go_num, hRA, hBk.trans hBA⟩
            case measure => simp [intOf]; omega
          · rw [if_neg h0] at hokk hsk
            have hrd := rtext_be (S k) hokk (rest K N Z S m s.data.toList (k + 1))
            rw [← hsk] at hrd
            have HRD := Lib.hid hrd
            have h0' : (K k == 0) = false := by simpa using h0
            have h0'' : (K k != 0) = true := by simpa using h0
            clear hrd hsk hokk h0
            go_upto_region 15 with fail
            refine wp_region_held_drew (S := fun w' => w'.cell? ⟨b, off + k * 4, none⟩ = some (.int .i64 (K k)) ∧ w'.cell? ⟨b, off + k * 4 + 3, none⟩ = some (.string (S k))) (by kernel_rfl) ?_ (fun hHeld => ?_)
            · exact ⟨a0, a3⟩
            refine' wpAnyH_take (i := 0) ?hiq0 (by kernel_rfl) (by kernel_rfl) (by kernel_rfl) ?hqq0 (Or.inl ⟨?hwq0, ?hyq0⟩) (by assumption) ?hrq0
            case hiq0 => (simp only [List.getElem?_toArray, List.getElem?_cons_succ, List.getElem?_cons_zero]; rfl)
            case hqq0 => exact fun _ _ _ h => h
            case hwq0 => rfl
            case hyq0 => (intro w0 hSw; (try dsimp only at hSw); go_simp; try with_reducible rfl)
            simp only [Act.put, List.setIfInBounds_toArray, List.set_cons_zero, List.set_cons_succ]
            refine' wpAnyH_take (i := 1) ?hiq1 (by kernel_rfl) (by kernel_rfl) (by kernel_rfl) ?hqq1 (Or.inl ⟨?hwq1, ?hyq1⟩) (by assumption) ?hrq1
            case hiq1 => (simp only [List.getElem?_toArray, List.getElem?_cons_succ, List.getElem?_cons_zero]; rfl)
            case hqq1 => exact fun _ _ _ h => h
            case hwq1 => rfl
            case hyq1 => (intro w0 hSw; (try dsimp only at hSw); go_simp; try with_reducible rfl)
            simp only [Act.put, List.setIfInBounds_toArray, List.set_cons_zero, List.set_cons_succ]
            refine' wpAnyH_take (i := 2) ?hiq2 (by kernel_rfl) (by kernel_rfl) (by kernel_rfl) ?hqq2 (Or.inl ⟨?hwq2, ?hyq2⟩) (by assumption) ?hrq2
            case hiq2 => (simp only [List.getElem?_toArray, List.getElem?_cons_succ, List.getElem?_cons_zero]; rfl)
            case hqq2 => exact fun _ _ _ h => h
            case hwq2 => rfl
            case hyq2 => (intro w0 hSw; (try dsimp only at hSw); go_simp; try with_reducible rfl)
            simp only [Act.put, List.setIfInBounds_toArray, List.set_cons_zero, List.set_cons_succ]
            refine' wpAnyH_take (i := 3) ?hiq3 (by kernel_rfl) (by kernel_rfl) (by kernel_rfl) ?hqq3 (Or.inl ⟨?hwq3, ?hyq3⟩) (by assumption) ?hrq3
            case hiq3 => (simp only [List.getElem?_toArray, List.getElem?_cons_succ, List.getElem?_cons_zero]; rfl)
            case hqq3 => exact fun _ _ _ h => h
            case hwq3 => rfl
            case hyq3 => (intro w0 hSw; (try dsimp only at hSw); go_simp; try with_reducible rfl)
            simp only [Act.put, List.setIfInBounds_toArray, List.set_cons_zero, List.set_cons_succ]
            refine' wpAnyH_take (i := 4) ?hiq4 (by kernel_rfl) (by kernel_rfl) (by kernel_rfl) ?hqq4 (Or.inl ⟨?hwq4, ?hyq4⟩) (by assumption) ?hrq4
            case hiq4 => (simp only [List.getElem?_toArray, List.getElem?_cons_succ, List.getElem?_cons_zero]; rfl)
            case hqq4 => exact fun _ _ _ h => h
            case hwq4 => rfl
            case hyq4 => (intro w0 hSw; (try dsimp only at hSw); go_simp; try with_reducible rfl)
            simp only [Act.put, List.setIfInBounds_toArray, List.set_cons_zero, List.set_cons_succ]
            refine' wpAnyH_take (i := 5) ?hiq5 (by kernel_rfl) (by kernel_rfl) (by kernel_rfl) ?hqq5 (Or.inl ⟨?hwq5, ?hyq5⟩) (by assumption) ?hrq5
            case hiq5 => (simp only [List.getElem?_toArray, List.getElem?_cons_succ, List.getElem?_cons_zero]; rfl)
            case hqq5 => exact fun _ _ _ h => h
            case hwq5 => rfl
            case hyq5 => (intro w0 hSw; (try dsimp only at hSw); go_simp; try with_reducible rfl)
            simp only [Act.put, List.setIfInBounds_toArray, List.set_cons_zero, List.set_cons_succ]
            refine' wpAnyH_take (i := 6) ?hiq6 (by kernel_rfl) (by kernel_rfl) (by kernel_rfl) ?hqq6 (Or.inl ⟨?hwq6, ?hyq6⟩) (by assumption) ?hrq6
            case hiq6 => (simp only [List.getElem?_toArray, List.getElem?_cons_succ, List.getElem?_cons_zero]; rfl)
            case hqq6 => exact fun _ _ _ h => h
            case hwq6 => rfl
            case hyq6 => (intro w0 hSw; (try dsimp only at hSw); go_simp; try with_reducible rfl)
            simp only [Act.put, List.setIfInBounds_toArray, List.set_cons_zero, List.set_cons_succ]
            refine' wpAnyH_take (i := 7) (v := undef) ?hiq7 (by kernel_rfl) (by kernel_rfl) (by kernel_rfl) ?hqq7 (Or.inr ⟨?hwq7, rfl⟩) (by assumption) ?hrq7
            case hiq7 => (simp only [List.getElem?_toArray, List.getElem?_cons_succ, List.getElem?_cons_zero]; rfl)
            case hqq7 => exact fun _ _ _ h => h
            case hwq7 => rfl
            simp only [Act.put, List.setIfInBounds_toArray, List.set_cons_zero, List.set_cons_succ]
            refine' wpAnyH_take (i := 8) (v := undef) ?hiq8 (by kernel_rfl) (by kernel_rfl) (by kernel_rfl) ?hqq8 (Or.inr ⟨?hwq8, rfl⟩) (by assumption) ?hrq8
            case hiq8 => (simp only [List.getElem?_toArray, List.getElem?_cons_succ, List.getElem?_cons_zero]; rfl)
            case hqq8 => exact fun _ _ _ h => h
            case hwq8 => rfl
            simp only [Act.put, List.setIfInBounds_toArray, List.set_cons_zero, List.set_cons_succ]
            refine' wpAnyH_take (i := 9) (v := undef) ?hiq9 (by kernel_rfl) (by kernel_rfl) (by kernel_rfl) ?hqq9 (Or.inr ⟨?hwq9, rfl⟩) (by assumption) ?hrq9
            case hiq9 => (simp only [List.getElem?_toArray, List.getElem?_cons_succ, List.getElem?_cons_zero]; rfl)
            case hqq9 => exact fun _ _ _ h => h
            case hwq9 => rfl
            simp only [Act.put, List.setIfInBounds_toArray, List.set_cons_zero, List.set_cons_succ]
            refine' wpAnyH_take (i := 10) (v := undef) ?hiq10 (by kernel_rfl) (by kernel_rfl) (by kernel_rfl) ?hqq10 (Or.inr ⟨?hwq10, rfl⟩) (by assumption) ?hrq10
            case hiq10 => (simp only [List.getElem?_toArray, List.getElem?_cons_succ, List.getElem?_cons_zero]; rfl)
            case hqq10 => exact fun _ _ _ h => h
            case hwq10 => rfl
            simp only [Act.put, List.setIfInBounds_toArray, List.set_cons_zero, List.set_cons_succ]
            refine' wpAnyH_take (i := 11) (v := undef) ?hiq11 (by kernel_rfl) (by kernel_rfl) (by kernel_rfl) ?hqq11 (Or.inr ⟨?hwq11, rfl⟩) (by assumption) ?hrq11
            case hiq11 => (simp only [List.getElem?_toArray, List.getElem?_cons_succ, List.getElem?_cons_zero]; rfl)
            case hqq11 => exact fun _ _ _ h => h
            case hwq11 => rfl
            simp only [Act.put, List.setIfInBounds_toArray, List.set_cons_zero, List.set_cons_succ]
            refine' wpAnyH_take (i := 12) (v := undef) ?hiq12 (by kernel_rfl) (by kernel_rfl) (by kernel_rfl) ?hqq12 (Or.inr ⟨?hwq12, rfl⟩) (by assumption) ?hrq12
            case hiq12 => (simp only [List.getElem?_toArray, List.getElem?_cons_succ, List.getElem?_cons_zero]; rfl)
            case hqq12 => exact fun _ _ _ h => h
            case hwq12 => rfl
            simp only [Act.put, List.setIfInBounds_toArray, List.set_cons_zero, List.set_cons_succ]
            refine' wpAnyH_take (i := 13) (v := undef) ?hiq13 (by kernel_rfl) (by kernel_rfl) (by kernel_rfl) ?hqq13 (Or.inr ⟨?hwq13, rfl⟩) (by assumption) ?hrq13
            case hiq13 => (simp only [List.getElem?_toArray, List.getElem?_cons_succ, List.getElem?_cons_zero]; rfl)
            case hqq13 => exact fun _ _ _ h => h
            case hwq13 => rfl
            simp only [Act.put, List.setIfInBounds_toArray, List.set_cons_zero, List.set_cons_succ]
            refine' wpAnyH_take (i := 14) (v := undef) ?hiq14 (by kernel_rfl) (by kernel_rfl) (by kernel_rfl) ?hqq14 (Or.inr ⟨?hwq14, rfl⟩) (by assumption) ?hrq14
            case hiq14 => (simp only [List.getElem?_toArray, List.getElem?_cons_succ, List.getElem?_cons_zero]; rfl)
            case hqq14 => exact fun _ _ _ h => h
            case hwq14 => rfl
            simp only [Act.put, List.setIfInBounds_toArray, List.set_cons_zero, List.set_cons_succ]
            refine' wpAnyH_take (i := 15) (v := undef) ?hiq15 (by kernel_rfl) (by kernel_rfl) (by kernel_rfl) ?hqq15 (Or.inr ⟨?hwq15, rfl⟩) (by assumption) ?hrq15
            case hiq15 => (simp only [List.getElem?_toArray, List.getElem?_cons_succ, List.getElem?_cons_zero]; rfl)
            case hqq15 => exact fun _ _ _ h => h
            case hwq15 => rfl
            simp only [Act.put, List.setIfInBounds_toArray, List.set_cons_zero, List.set_cons_succ]
            refine' wpAnyH_take (i := 16) (v := undef) ?hiq16 (by kernel_rfl) (by kernel_rfl) (by kernel_rfl) ?hqq16 (Or.inr ⟨?hwq16, rfl⟩) (by assumption) ?hrq16
            case hiq16 => (simp only [List.getElem?_toArray, List.getElem?_cons_succ, List.getElem?_cons_zero]; rfl)
            case hqq16 => exact fun _ _ _ h => h
            case hwq16 => rfl
            simp only [Act.put, List.setIfInBounds_toArray, List.set_cons_zero, List.set_cons_succ]
            refine' wpAnyH_take (i := 17) (v := undef) ?hiq17 (by kernel_rfl) (by kernel_rfl) (by kernel_rfl) ?hqq17 (Or.inr ⟨?hwq17, rfl⟩) (by assumption) ?hrq17
            case hiq17 => (simp only [List.getElem?_toArray, List.getElem?_cons_succ, List.getElem?_cons_zero]; rfl)
            case hqq17 => exact fun _ _ _ h => h
            case hwq17 => rfl
            simp only [Act.put, List.setIfInBounds_toArray, List.set_cons_zero, List.set_cons_succ]
            refine' wpAnyH_take (i := 18) (v := undef) ?hiq18 (by kernel_rfl) (by kernel_rfl) (by kernel_rfl) ?hqq18 (Or.inr ⟨?hwq18, rfl⟩) (by assumption) ?hrq18
            case hiq18 => (simp only [List.getElem?_toArray, List.getElem?_cons_succ, List.getElem?_cons_zero]; rfl)
            case hqq18 => exact fun _ _ _ h => h
            case hwq18 => rfl
            simp only [Act.put, List.setIfInBounds_toArray, List.set_cons_zero, List.set_cons_succ]
            refine' wpAnyH_take (i := 19) (v := undef) ?hiq19 (by kernel_rfl) (by kernel_rfl) (by kernel_rfl) ?hqq19 (Or.inr ⟨?hwq19, rfl⟩) (by assumption) ?hrq19
            case hiq19 => (simp only [List.getElem?_toArray, List.getElem?_cons_succ, List.getElem?_cons_zero]; rfl)
            case hqq19 => exact fun _ _ _ h => h
            case hwq19 => rfl
            simp only [Act.put, List.setIfInBounds_toArray, List.set_cons_zero, List.set_cons_succ]
            refine' wpAnyH_take (i := 20) ?hiq20 (by kernel_rfl) (by kernel_rfl) (by kernel_rfl) ?hqq20 (Or.inl ⟨?hwq20, ?hyq20⟩) (by assumption) ?hrq20
            case hiq20 => (simp only [List.getElem?_toArray, List.getElem?_cons_succ, List.getElem?_cons_zero]; rfl)
            case hqq20 => exact fun _ _ _ h => h
            case hwq20 => rfl
            case hyq20 => (intro w0 hSw; (try dsimp only at hSw); go_simp; try with_reducible rfl)
            simp only [Act.put, List.setIfInBounds_toArray, List.set_cons_zero, List.set_cons_succ]
            refine' wpAnyH_take (i := 21) ?hiq21 (by kernel_rfl) (by kernel_rfl) (by kernel_rfl) ?hqq21 (Or.inl ⟨?hwq21, ?hyq21⟩) (by assumption) ?hrq21
            case hiq21 => (simp only [List.getElem?_toArray, List.getElem?_cons_succ, List.getElem?_cons_zero]; rfl)
            case hqq21 => exact fun _ _ _ h => h
            case hwq21 => rfl
            case hyq21 => (intro w0 hSw; (try dsimp only at hSw); go_simp; try with_reducible rfl)
            simp only [Act.put, List.setIfInBounds_toArray, List.set_cons_zero, List.set_cons_succ]
            refine' wpAnyH_take (i := 22) ?hiq22 (by kernel_rfl) (by kernel_rfl) (by kernel_rfl) ?hqq22 (Or.inl ⟨?hwq22, ?hyq22⟩) (by assumption) ?hrq22
            case hiq22 => (simp only [List.getElem?_toArray, List.getElem?_cons_succ, List.getElem?_cons_zero]; rfl)
            case hqq22 => exact fun _ _ _ h => h
            case hwq22 => rfl
            case hyq22 => (intro w0 hSw; (try dsimp only at hSw); go_simp; try with_reducible rfl)
            simp only [Act.put, List.setIfInBounds_toArray, List.set_cons_zero, List.set_cons_succ]
            refine' wpAnyH_take (i := 23) ?hiq23 (by kernel_rfl) (by kernel_rfl) (by kernel_rfl) ?hqq23 (Or.inl ⟨?hwq23, ?hyq23⟩) (by assumption) ?hrq23
            case hiq23 => (simp only [List.getElem?_toArray, List.getElem?_cons_succ, List.getElem?_cons_zero]; rfl)
            case hqq23 => exact fun _ _ _ h => h
            case hwq23 => rfl
            case hyq23 => (intro w0 hSw; (try dsimp only at hSw); go_simp; try with_reducible rfl)
            simp only [Act.put, List.setIfInBounds_toArray, List.set_cons_zero, List.set_cons_succ]
            refine' wpAnyH_take (i := 24) ?hiq24 (by kernel_rfl) (by kernel_rfl) (by kernel_rfl) ?hqq24 (Or.inl ⟨?hwq24, ?hyq24⟩) (by assumption) ?hrq24
            case hiq24 => (simp only [List.getElem?_toArray, List.getElem?_cons_succ, List.getElem?_cons_zero]; rfl)
            case hqq24 => exact fun _ _ _ h => h
            case hwq24 => rfl
            case hyq24 => (intro w0 hSw; (try dsimp only at hSw); go_simp; try with_reducible rfl)
            simp only [Act.put, List.setIfInBounds_toArray, List.set_cons_zero, List.set_cons_succ]
            refine' wpAnyH_take (i := 25) ?hiq25 (by kernel_rfl) (by kernel_rfl) (by kernel_rfl) ?hqq25 (Or.inl ⟨?hwq25, ?hyq25⟩) (by assumption) ?hrq25
            case hiq25 => (simp only [List.getElem?_toArray, List.getElem?_cons_succ, List.getElem?_cons_zero]; rfl)
            case hqq25 => exact fun _ _ _ h => h
            case hwq25 => rfl
            case hyq25 => (intro w0 hSw; (try dsimp only at hSw); go_simp; try with_reducible rfl)
            simp only [Act.put, List.setIfInBounds_toArray, List.set_cons_zero, List.set_cons_succ]
            refine' wpAnyH_take (i := 26) ?hiq26 (by kernel_rfl) (by kernel_rfl) (by kernel_rfl) ?hqq26 (Or.inl ⟨?hwq26, ?hyq26⟩) (by assumption) ?hrq26
            case hiq26 => (simp only [List.getElem?_toArray, List.getElem?_cons_succ, List.getElem?_cons_zero]; rfl)
            case hqq26 => exact fun _ _ _ h => h
            case hwq26 => rfl
            case hyq26 => (intro w0 hSw; (try dsimp only at hSw); go_simp; try with_reducible rfl)
            simp only [Act.put, List.setIfInBounds_toArray, List.set_cons_zero, List.set_cons_succ]
            refine' wpAnyH_take (i := 27) ?hiq27 (by kernel_rfl) (by kernel_rfl) (by kernel_rfl) ?hqq27 (Or.inl ⟨?hwq27, ?hyq27⟩) (by assumption) ?hrq27
            case hiq27 => (simp only [List.getElem?_toArray, List.getElem?_cons_succ, List.getElem?_cons_zero]; rfl)
            case hqq27 => exact fun _ _ _ h => h
            case hwq27 => rfl
            case hyq27 => (intro w0 hSw; (try dsimp only at hSw); go_simp; try with_reducible rfl)
            simp only [Act.put, List.setIfInBounds_toArray, List.set_cons_zero, List.set_cons_succ]
            refine' wpAnyH_take (i := 28) ?hiq28 (by kernel_rfl) (by kernel_rfl) (by kernel_rfl) ?hqq28 (Or.inl ⟨?hwq28, ?hyq28⟩) (by assumption) ?hrq28
            case hiq28 => (simp only [List.getElem?_toArray, List.getElem?_cons_succ, List.getElem?_cons_zero]; rfl)
            case hqq28 => exact fun _ _ _ h => h
            case hwq28 => rfl
            case hyq28 => (intro w0 hSw; (try dsimp only at hSw); go_simp; try with_reducible rfl)
            simp only [Act.put, List.setIfInBounds_toArray, List.set_cons_zero, List.set_cons_succ]
            refine' wpAnyH_take (i := 29) ?hiq29 (by kernel_rfl) (by kernel_rfl) (by kernel_rfl) ?hqq29 (Or.inl ⟨?hwq29, ?hyq29⟩) (by assumption) ?hrq29
            case hiq29 => (simp only [List.getElem?_toArray, List.getElem?_cons_succ, List.getElem?_cons_zero]; rfl)
            case hqq29 => exact fun _ _ _ h => h
            case hwq29 => rfl
            case hyq29 => (intro w0 hSw; (try dsimp only at hSw); go_simp; try with_reducible rfl)
            simp only [Act.put, List.setIfInBounds_toArray, List.set_cons_zero, List.set_cons_succ]
            refine' wpAnyH_take (i := 31) ?hiq31 (by kernel_rfl) (by kernel_rfl) (by kernel_rfl) ?hqq31 (Or.inl ⟨?hwq31, ?hyq31⟩) (by assumption) ?hrq31
            case hiq31 => (simp only [List.getElem?_toArray, List.getElem?_cons_succ, List.getElem?_cons_zero]; rfl)
            case hqq31 => exact fun _ _ _ h => h
            case hwq31 => rfl
            case hyq31 => (intro w0 hSw; (try dsimp only at hSw); go_simp; try with_reducible rfl)
            simp only [Act.put, List.setIfInBounds_toArray, List.set_cons_zero, List.set_cons_succ]
            refine' wpAnyH_take (i := 32) ?hiq32 (by kernel_rfl) (by kernel_rfl) (by kernel_rfl) ?hqq32 (Or.inl ⟨?hwq32, ?hyq32⟩) (by assumption) ?hrq32
            case hiq32 => (simp only [List.getElem?_toArray, List.getElem?_cons_succ, List.getElem?_cons_zero]; rfl)
            case hqq32 => exact fun _ _ _ h => h
            case hwq32 => rfl
            case hyq32 => (intro w0 hSw; (try dsimp only at hSw); go_simp; try with_reducible rfl)
            simp only [Act.put, List.setIfInBounds_toArray, List.set_cons_zero, List.set_cons_succ]
            refine' wpAnyH_take (i := 33) ?hiq33 (by kernel_rfl) (by kernel_rfl) (by kernel_rfl) ?hqq33 (Or.inl ⟨?hwq33, ?hyq33⟩) (by assumption) ?hrq33
            case hiq33 => (simp only [List.getElem?_toArray, List.getElem?_cons_succ, List.getElem?_cons_zero]; rfl)
            case hqq33 => exact fun _ _ _ h => h
            case hwq33 => rfl
            case hyq33 => (intro w0 hSw; (try dsimp only at hSw); go_simp; try with_reducible rfl)
            simp only [Act.put, List.setIfInBounds_toArray, List.set_cons_zero, List.set_cons_succ]
            refine' wpAnyH_take (i := 34) ?hiq34 (by kernel_rfl) (by kernel_rfl) (by kernel_rfl) ?hqq34 (Or.inl ⟨?hwq34, ?hyq34⟩) (by assumption) ?hrq34
            case hiq34 => (simp only [List.getElem?_toArray, List.getElem?_cons_succ, List.getElem?_cons_zero]; rfl)
            case hqq34 => exact fun _ _ _ h => h
            case hwq34 => rfl
            case hyq34 => (intro w0 hSw; (try dsimp only at hSw); go_simp; try with_reducible rfl)
            simp only [Act.put, List.setIfInBounds_toArray, List.set_cons_zero, List.set_cons_succ]
            refine' wpAnyH_take (i := 35) ?hiq35 (by kernel_rfl) (by kernel_rfl) (by kernel_rfl) ?hqq35 (Or.inl ⟨?hwq35, ?hyq35⟩) (by assumption) ?hrq35
            case hiq35 => (simp only [List.getElem?_toArray, List.getElem?_cons_succ, List.getElem?_cons_zero]; rfl)
            case hqq35 => exact fun _ _ _ h => h
            case hwq35 => rfl
            case hyq35 => (intro w0 hSw; (try dsimp only at hSw); go_simp; try with_reducible rfl)
            simp only [Act.put, List.setIfInBounds_toArray, List.set_cons_zero, List.set_cons_succ]
            refine wpAnyH_ready (rs := [30]) (by kernel_rfl) (by simp) ?_
            refine' AllReadyH.cons ?hiq30 (fun K hK => ?hrq30) AllReadyH.nil
            case hiq30 => (simp only [List.getElem?_toArray, List.getElem?_cons_succ, List.getElem?_cons_zero]; rfl)
            go_simp
            (refine (rtext_any (Only wr R) R _ _ 65535 _ (by exact hRk) (Only.self _ _) (by exact hNew) (by omega)).mono ?_; rw [HRD.out]; rintro e wA ⟨rfl, hRA, hTA⟩; clear hHeld)
            refine hK.out _ _ ?_ (fun hHeld => ?_)
            · exact ⟨hK1 _ (Turn.undrew hTA) a0, hK1 _ (Turn.undrew hTA) a3⟩
            clear hK K
            simp only [Act.put, List.setIfInBounds_toArray, List.set_cons_zero, List.set_cons_succ]
            refine' wpAnyH_take (i := 36) ?hiq36 (by kernel_rfl) (by kernel_rfl) (by kernel_rfl) ?hqq36 (Or.inl ⟨?hwq36, ?hyq36⟩) (by assumption) ?hrq36
            case hiq36 => (simp only [List.getElem?_toArray, List.getElem?_cons_succ, List.getElem?_cons_zero]; rfl)
            case hqq36 => exact fun _ _ _ h => h
            case hwq36 => rfl
            case hyq36 => (intro w0 hSw; (try dsimp only at hSw); go_simp; try with_reducible rfl)
            simp only [Act.put, List.setIfInBounds_toArray, List.set_cons_zero, List.set_cons_succ]
            refine' wpAnyH_take (i := 37) ?hiq37 (by kernel_rfl) (by kernel_rfl) (by kernel_rfl) ?hqq37 (Or.inl ⟨?hwq37, ?hyq37⟩) (by assumption) ?hrq37
            case hiq37 => (simp only [List.getElem?_toArray, List.getElem?_cons_succ, List.getElem?_cons_zero]; rfl)
            case hqq37 => exact fun _ _ _ h => h
            case hwq37 => rfl
            case hyq37 => (intro w0 hSw; (try dsimp only at hSw); go_simp; try with_reducible rfl)
            simp only [Act.put, List.setIfInBounds_toArray, List.set_cons_zero, List.set_cons_succ]
            refine' wpAnyH_take (i := 38) ?hiq38 (by kernel_rfl) (by kernel_rfl) (by kernel_rfl) ?hqq38 (Or.inl ⟨?hwq38, ?hyq38⟩) (by assumption) ?hrq38
            case hiq38 => (simp only [List.getElem?_toArray, List.getElem?_cons_succ, List.getElem?_cons_zero]; rfl)
            case hqq38 => exact fun _ _ _ h => h
            case hwq38 => rfl
            case hyq38 => (intro w0 hSw; (try dsimp only at hSw); go_simp; try with_reducible rfl)
            simp only [Act.put, List.setIfInBounds_toArray, List.set_cons_zero, List.set_cons_succ]
            refine wpAnyH_done (by kernel_rfl) ?_ _
            have hBA : Below G wr wA := (Turn.undrew hTA).below (by rintro j (h | h) <;> (have := hBk.size; omega))
            go_wp2
            go_roundw
            case rel => exact ⟨k + 1, by omega, by go_num, hRA, hBk.trans hBA⟩
            case measure => simp [intOf]; omega
        · obtain rfl : k = m := by omega
          have hRs : RBlk wr R s 0 := by
            rw [HEND.out, tx_eta] at hRk
            exact hRk
          clear hRk hlk hlr HSTEP HEND HOK hD
          by_cases hem : s.data.toList.isEmpty = true
          · have hee : (if s.data.toList.isEmpty then (0 : Int) else 4) = 0 := by rw [if_pos hem]
            have hb1' : s.toList.isEmpty = true := by rw [ByteArray.toList_eq]; exact hem
            have HEE := Lib.hid hee
            clear hee hem
            by_cases hkn : k < n
            · obtain rfl : k = 40 := by omega
              go_wp2_with (first
                | (go_at_call 23; refine (left_ok R s _ hRs).mono ?_; rintro e w4 ⟨rfl, rfl⟩)
                | (go_at_call 24; refine (err_ok R s 0 _ hRs).mono ?_; rintro e w4 ⟨rfl, rfl⟩)
                | (go_at_call 25; refine (end_ok R s _ hRs).mono ?_; rw [HEE.out]; rintro e w4 ⟨rfl, rfl⟩)
                | (go_at_call 15; refine (awake_any _).mono ?_; rintro e wF ⟨rfl, hbF⟩))
              go_ret
              exact ⟨rfl, hG ▸ hBk.trans (hbF.mono (by have := hBk.size; omega))⟩
            · have i3 : ¬ (k : Int) < (n : Int) := by omega
              go_wp2_with (first
                | (go_at_call 23; refine (left_ok R s _ hRs).mono ?_; rintro e w4 ⟨rfl, rfl⟩)
                | (go_at_call 24; refine (err_ok R s 0 _ hRs).mono ?_; rintro e w4 ⟨rfl, rfl⟩)
                | (go_at_call 25; refine (end_ok R s _ hRs).mono ?_; rw [HEE.out]; rintro e w4 ⟨rfl, rfl⟩)
                | (go_at_call 15; refine (awake_any _).mono ?_; rintro e wF ⟨rfl, hbF⟩))
              go_ret
              exact ⟨rfl, hG ▸ hBk.trans (hbF.mono (by have := hBk.size; omega))⟩
          · have hee : (if s.data.toList.isEmpty then (0 : Int) else 4) = 4 := by rw [if_neg hem]
            have hb1' : s.toList.isEmpty = false := by rw [ByteArray.toList_eq]; simpa using hem
            have HEE := Lib.hid hee
            clear hee hem
            by_cases hkn : k < n
            · obtain rfl : k = 40 := by omega
              go_wp2_with (first
                | (go_at_call 23; refine (left_ok R s _ hRs).mono ?_; rintro e w4 ⟨rfl, rfl⟩)
                | (go_at_call 24; refine (err_ok R s 0 _ hRs).mono ?_; rintro e w4 ⟨rfl, rfl⟩)
                | (go_at_call 25; refine (end_ok R s _ hRs).mono ?_; rw [HEE.out]; rintro e w4 ⟨rfl, rfl⟩)
                | (go_at_call 15; refine (awake_any _).mono ?_; rintro e wF ⟨rfl, hbF⟩))
              go_ret
              exact ⟨rfl, hG ▸ hBk.trans (hbF.mono (by have := hBk.size; omega))⟩
            · have i3 : ¬ (k : Int) < (n : Int) := by omega
              go_wp2_with (first
                | (go_at_call 23; refine (left_ok R s _ hRs).mono ?_; rintro e w4 ⟨rfl, rfl⟩)
                | (go_at_call 24; refine (err_ok R s 0 _ hRs).mono ?_; rintro e w4 ⟨rfl, rfl⟩)
                | (go_at_call 25; refine (end_ok R s _ hRs).mono ?_; rw [HEE.out]; rintro e w4 ⟨rfl, rfl⟩)
                | (go_at_call 15; refine (awake_any _).mono ?_; rintro e wF ⟨rfl, hbF⟩))
              go_ret
              exact ⟨rfl, hG ▸ hBk.trans (hbF.mono (by have := hBk.size; omega))⟩
    · have hd : (err != 0) = true := by simpa using he
      have hD : wDone (out, err) = (⟨#[]⟩, err) := by unfold wDone; rw [if_pos he]
      clear he
      go_wp2_with (first
        | (go_at_call 14; refine (done_any (G ≤ ·) G _ _ _ hWm).mono ?_; rw [hD]; rintro e w4 ⟨rfl, rfl⟩)
        | (go_at_call 15; refine (awake_any _).mono ?_; rintro e wF ⟨rfl, hbF⟩))
      go_ret
      exact ⟨rfl, hG ▸ hBm.trans (hbF.mono (by have := hBm.size; omega))⟩
end Go.Proofs.Ytbloijnkkjmldaa.oct
