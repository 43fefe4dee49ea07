/-
  OctetReads' walk.
-/
import Derived.Test.YtbloijnkkjmldaaActs
import Derived.Test.YtbloijnkkjmldaaRef1
import Derived.Deep.RegionHeld3
import Derived.Deep.DeepCutAuto
import Derived.Deep.CutBlock
import Derived.Deep.CutRange
import Derived.Outline
namespace Go.Proofs.Ytbloijnkkjmldaa.oct
open Go.RowKit

/-- both Readers stand alike, in blocks of the law's own -/
def Both (w : World) (R X : Nat) (lim : Nat) (a x : ByteArray × Int) : Prop := RBlk w R a.1 a.2 ∧ XBlk w X x.1 x.2 ∧ Sim a x ∧ a.1.size ≤ lim

theorem Turn.undrew {F : Nat → Prop} {w w' : World} (h : Turn F w.drew w') : Turn F w w' := ⟨h.os, h.tape, h.output, h.size, h.block⟩
theorem Turn.cell {F : Nat → Prop} {w w' : World} (h : Turn F w w') {b i : Nat} (hp : ¬ F b) : w'.cell? ⟨b, i, none⟩ = w.cell? ⟨b, i, none⟩ := World.cell?_of_block (w := w) (a := ⟨b, i, none⟩) (h.block b hp)

theorem rText_le (st : ByteArray × Int) (n : Int) : (rText st n).2.1.size ≤ st.1.size := by
  have h1 := rNum_le st 2
  unfold rText
  split
  · split
    · exact h1
    · exact Nat.zero_le _
  · exact Nat.le_trans (rTake_le _ _).2 h1

theorem quiet_left {P : Program} {f : FuncId} {args : Array Value} {w : World} {n : Nat} {v : Value}
    (h : Calls P f args (w.drewN n) fun e w' => e = .returned v ∧ w.drewN n = w') : Calls P f args (w.drewN n) fun e w'' => e = .returned v ∧ ∃ m, w'' = w.drewN m :=
  h.mono fun _ _ ⟨he, hm⟩ => ⟨he, n, hm.symm⟩

theorem below_drewN {B : Nat} {a w : World} (h : Below B a w) (n : Nat) : Below B a (w.drewN n) := ⟨h.os, h.tape, h.output, h.size, h.block⟩

def BothB (w : World) (R X lim : Nat) (w0 : World) : Prop := ∃ a x, Both w R X lim a x ∧ Below R w0 w

set_option maxHeartbeats 4000000 in
set_option maxRecDepth 100000 in
theorem reads_walk (s : ByteArray) (ad : Option Addr) (n cap : Nat) (K N Z : Nat → Int) (S : Nat → ByteArray) (w : World) (hs : s.size ≤ 140737488351232) (hl : n ≤ 9223372036854775807) (hA : Acts w ad n K N Z S) :
    Calls Try.prog 4 #[.string s, .slice ad n cap] w fun e w' => e = .returned (.bool true) ∧ Below w.heap.size w w' := by
  go_enter Try.func4, Try.ntmps4
  go_wp2_with (first
    | (go_at_call 16; refine (open_any _ _).mono ?_; rintro e w1 ⟨rfl, hR1, hb1⟩))
  have hR2 : RBlk (w1.alloc (.cells #[.string s, .int .i64 0] 41)) w.heap.size s 0 := Blk.alloc hR1 _
  have hX2 : XBlk (w1.alloc (.cells #[.string s, .int .i64 0] 41)) w1.heap.size s 0 := Blk.new _ _ _
  have hB2 : Below w.heap.size w (w1.alloc (.cells #[.string s, .int .i64 0] 41)) := hb1.alloc hb1.size _
  have hlt1 := Blk.lt hR1
  generalize hX : w1.heap.size = X at *
  generalize hR : w.heap.size = R at *
  clear hb1 hR1
  go_loopw [7] (fun i wr => ∃ (k : Nat) (a x : ByteArray × Int), k ≤ n ∧ k ≤ 60 ∧ i = .int .i64 k ∧ Both wr R X 140737488351232 a x ∧ Below R w wr) (fun i _ => 60 - (intOf i).toNat)
  case atStart => exact ⟨0, (s, 0), (s, 0), Nat.zero_le _, Nat.zero_le _, rfl, ⟨hR2, hX2, ⟨rfl, fun _ => rfl⟩, hs⟩, hB2⟩
  case round =>
    obtain ⟨k, a, x, hk, hk60, rfl, ⟨hRk, hXk, hSk, hLk⟩, hBk⟩ := hrel
    clear hR2 hX2 hB2
    by_cases hlt : k < n ∧ k < 60
    · obtain ⟨hkn, hk2⟩ := hlt
      obtain ⟨b, off, rfl, hbl, a0, a1, a2, a3, hN, hS⟩ := hA k hkn
      rw [hR] at hbl
      replace a0 := (hBk.cell hbl).trans a0
      replace a1 := (hBk.cell hbl).trans a1
      replace a2 := (hBk.cell hbl).trans a2
      replace a3 := (hBk.cell hbl).trans a3
      have i0 : (0 : Int) ≤ (k : Int) := Int.natCast_nonneg _
      have i1 : (k : Int) < (n : Int) := by omega
      have i2 : (k : Int) < 60 := by omega
      go_upto_block 2 with fail
      go_cut [8] from 15 to 112 (fun c wx => c = .bool true ∧ BothB wx R X 140737488351232 w)
      case first =>
        have hlX := Blk.lt hXk
        have hT0 : ∀ wx, Turn (Only wr R) wr wx → XBlk wx X x.1 x.2 := fun wx ht => Blk.turn hXk ht (by rintro (h | h) <;> omega)
        have hK1 : ∀ wx {i : Nat} {v : Value}, Turn (Only wr R) wr wx → wr.cell? ⟨b, i, none⟩ = some v → wx.cell? ⟨b, i, none⟩ = some v := fun wx i v ht h => (ht.cell (by rintro (h | h) <;> omega)).trans h
        have hK2 : ∀ wx {wy : World} {i : Nat} {v : Value}, Turn (· = X) wy wx → wy.cell? ⟨b, i, none⟩ = some v → wx.cell? ⟨b, i, none⟩ = some v := fun wx wy i v ht h => (ht.cell (by intro h; omega)).trans h
        by_cases h0 : K k = 0
        · rw [h0] at a0
          go_upto_region 10 with fail
          go_region_held3 (fun w' => w'.cell? ⟨b, off + k * 4 + 2, none⟩ = some (.int .i64 (Z k)))
            (first | exact a2 | exact hK1 _ (Turn.undrew (by assumption)) a2 | exact hK2 _ (by assumption) (by assumption) | go_keep)
            (first
              | (go_at_call 17; refine (rnum_any (Only wr R) R a.1 a.2 (Z k) _ (by exact hRk) (Only.self _ _) (by exact Only.new _ _)).mono ?_; rw [show (rNum (a.1, a.2) (Z k)).1 = (xNum x (Z k)).1 from (sim_num hSk (Z k)).1]; rintro e wA ⟨rfl, hRA, hTA⟩)
              | (go_at_call 18; refine (xnum_any (· = X) X x.1 x.2 (Z k) _ (by exact hT0 _ (Turn.undrew hTA)) rfl).mono ?_; rintro e wB ⟨rfl, hXB, hTB⟩))
          go_wp2_with fail
          go_meet
          exact ⟨by simp, _, _, ⟨Blk.turn hRA hTB (by omega), hXB, (sim_num hSk (Z k)).2, Nat.le_trans (rNum_le a (Z k)) hLk⟩, hBk.trans (((Turn.undrew hTA).below (B := R) (by rintro j (h | h); omega; have := hBk.size; omega)).trans (hTB.below (B := R) (by intro j h; omega)))⟩
        · have h0' : (K k == 0) = false := by simpa using h0
          by_cases h1 : K k = 1
          · rw [h1] at a0
            clear h0' h0
            go_upto_region 12 with fail
            go_region_held3 (fun w' => w'.cell? ⟨b, off + k * 4 + 1, none⟩ = some (.int .i64 (N k)))
              (first | exact a1 | exact hK1 _ (Turn.undrew (by assumption)) a1 | exact hK2 _ (by assumption) (by assumption) | go_keep)
              (first
                | (go_at_call 19; refine (rtext_any (Only wr R) R a.1 a.2 (N k) _ (by exact hRk) (Only.self _ _) (by exact Only.new _ _) (by omega)).mono ?_; rw [show (rText (a.1, a.2) (N k)).1 = (xText x (N k)).1 from (sim_text hSk (N k)).1]; rintro e wA ⟨rfl, hRA, hTA⟩)
                | (go_at_call 20; refine (xtext_any (· = X) X x.1 x.2 (N k) _ (by exact hT0 _ (Turn.undrew hTA)) rfl).mono ?_; rintro e wB ⟨rfl, hXB, hTB⟩))
            go_wp2_with fail
            go_meet
            exact ⟨by simp, _, _, ⟨Blk.turn hRA hTB (by omega), hXB, (sim_text hSk (N k)).2, Nat.le_trans (rText_le a (N k)) hLk⟩, hBk.trans (((Turn.undrew hTA).below (B := R) (by rintro j (h | h); omega; have := hBk.size; omega)).trans (hTB.below (B := R) (by intro j h; omega)))⟩
          · have h1' : (K k == 1) = false := by simpa using h1
            clear h0 h1
            go_upto_region 8 with fail
            go_region_held3 (fun w' => w'.cell? ⟨b, off + k * 4 + 1, none⟩ = some (.int .i64 (N k)))
              (first | exact a1 | exact hK1 _ (Turn.undrew (by assumption)) a1 | exact hK2 _ (by assumption) (by assumption) | go_keep)
              (first
                | (go_at_call 21; refine (rraw_any (Only wr R) R a.1 a.2 (N k) _ (by exact hRk) (Only.self _ _) (by exact Only.new _ _) (by omega)).mono ?_; rw [show (rTake (a.1, a.2) (N k)).1 = (xTake x (N k)).1 from (sim_take hSk (N k)).1]; rintro e wA ⟨rfl, hRA, hTA⟩)
                | (go_at_call 22; refine (xraw_any (· = X) X x.1 x.2 (N k) _ (by exact hT0 _ (Turn.undrew hTA)) rfl).mono ?_; rintro e wB ⟨rfl, hXB, hTB⟩))
            go_wp2_with fail
            go_meet
            exact ⟨by simp, _, _, ⟨Blk.turn hRA hTB (by omega), hXB, (sim_take hSk (N k)).2, Nat.le_trans (rTake_le a (N k)).2 hLk⟩, hBk.trans (((Turn.undrew hTA).below (B := R) (by rintro j (h | h); omega; have := hBk.size; omega)).trans (hTB.below (B := R) (by intro j h; omega)))⟩
      case rest =>
        clear hRk hXk hSk hLk hBk a0 a1 a2 a3
        obtain ⟨rfl, ⟨ra, ea⟩, ⟨rx, ex⟩, ⟨hRk, hXk, hSk, hLk⟩, hBk⟩ := hcut
        have c0 := hXk.c0
        have c1 := hXk.c1
        have hle := sim_left hSk
        have hen := sim_end hSk
        have her := hSk.1
        simp only at hRk hXk hLk hle her c0 c1
        have hErr : ∀ nq : Nat, Calls Try.prog 24 #[.pointer (some ⟨R, 0, none⟩)] (wc.drewN nq) fun e w' => e = .returned (.int .i64 ex) ∧ wc.drewN nq = w' := fun nq => by
          have := err_ok R ra ea (wc.drewN nq) hRk
          rw [her] at this
          exact this
        have hEnd : ∀ nq : Nat, Calls Try.prog 25 #[.pointer (some ⟨R, 0, none⟩)] (wc.drewN nq) fun e w' => e = .returned (.int .i64 (xEnd (rx, ex))) ∧ wc.drewN nq = w' := fun nq => by
          have := end_any R ra ea (wc.drewN nq) hRk
          rw [hen] at this
          exact this
        have hXEnd : ∀ nq : Nat, Calls Try.prog 26 #[.pointer (some ⟨X, 0, none⟩)] (wc.drewN nq) fun e w' => e = .returned (.int .i64 (xEnd (rx, ex))) ∧ wc.drewN nq = w' := fun nq => xend_any X rx ex (wc.drewN nq) hXk
        have HER := Lib.hid her
        have HEN := Lib.hid hen
        clear her hen
        by_cases he : ex = 0
        · subst he
          have hLeft : ∀ nq : Nat, Calls Try.prog 23 #[.pointer (some ⟨R, 0, none⟩)] (wc.drewN nq) fun e w' => e = .returned (.int .i64 rx.size) ∧ wc.drewN nq = w' := fun nq => by
            have := left_any R ra ea (wc.drewN nq) hRk
            rw [hle, if_neg (by simp)] at this
            exact this
          clear hle
          go_upto_region 16 with fail
          go_quiet ((first | (go_at_call 23; exact quiet_left (hLeft _)) | (go_at_call 24; exact quiet_left (hErr _)) | (go_at_call 25; exact quiet_left (hEnd _)) | (go_at_call 26; exact quiet_left (hXEnd _))))
          go_wp2
          go_roundw
          case rel => exact ⟨k + 1, (ra, ea), (rx, _), by omega, by omega, by go_num, ⟨hRk, hXk, hSk, hLk⟩, below_drewN hBk nq⟩
          case measure => simp [intOf]; omega
        · have hLeft : ∀ nq : Nat, Calls Try.prog 23 #[.pointer (some ⟨R, 0, none⟩)] (wc.drewN nq) fun e w' => e = .returned (.int .i64 0) ∧ wc.drewN nq = w' := fun nq => by
            have := left_any R ra ea (wc.drewN nq) hRk
            rw [hle, if_pos he] at this
            exact this
          have hd : (ex != 0) = true := by simpa using he
          clear hle he
          go_upto_region 16 with fail
          go_quiet ((first | (go_at_call 23; exact quiet_left (hLeft _)) | (go_at_call 24; exact quiet_left (hErr _)) | (go_at_call 25; exact quiet_left (hEnd _)) | (go_at_call 26; exact quiet_left (hXEnd _))))
          go_wp2
          go_roundw
          case rel => exact ⟨k + 1, (ra, ea), (rx, _), by omega, by omega, by go_num, ⟨hRk, hXk, hSk, hLk⟩, below_drewN hBk nq⟩
          case measure => simp [intOf]; omega
    · clear hRk hXk hSk hLk
      by_cases hkn : k < n
      · obtain rfl : k = 60 := by omega
        go_wp2_with (go_at_call 15; refine (awake_any _).mono ?_; rintro e wF ⟨rfl, hbF⟩)
        go_ret
        exact ⟨rfl, hR ▸ hBk.trans (hbF.mono (by have := hBk.size; omega))⟩
      · have i3 : ¬ (k : Int) < (n : Int) := by omega
        go_wp2_with (go_at_call 15; refine (awake_any _).mono ?_; rintro e wF ⟨rfl, hbF⟩)
        go_ret
        exact ⟨rfl, hR ▸ hBk.trans (hbF.mono (by have := hBk.size; omega))⟩
end Go.Proofs.Ytbloijnkkjmldaa.oct
