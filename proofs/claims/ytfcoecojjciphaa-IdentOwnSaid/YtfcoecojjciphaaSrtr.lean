/-
  The library's reversal of a part of a row of ids.
-/
import Derived.Test.YtfcoecojjciphaaSrt
import Derived.Deep.LoopGhost
namespace Go.Proofs.Ytfcoecojjciphaa.srt
open Go.RowKit Go.Proofs.Ytfcoecojjciphaa.mem Go.Proofs.Ytfcoecojjciphaa.sha Go.Proofs.Ytfcoecojjciphaa.ids Go.Sort
set_option maxHeartbeats 2000000 in
set_option maxRecDepth 100000 in
theorem rev_any {V H : Value} {blk off n : Nat} (E : Env V H blk off n) (d : Array I32) (w : World) (a b : Nat) (hs : St blk off n d w) (hab : a < b) (hb : b ≤ n) (hn : n ≤ 1000000000) :
    Calls Try.prog 73 #[dat V H, .int .i64 a, .int .i64 b] w fun e w' => e = .returned (.tuple #[]) ∧ ∃ d', PermIn a b d d' ∧ St blk off n d' w' ∧ Tr blk w w' := by
  have hdn := hs.size
  have HE := Lib.hid E
  have en := enters_less
  have HT0 := Lib.hid (Tr.boxed V H blk w)
  have HS0 := Lib.hid (hs.boxed (V := V) (H := H))
  have HB0 := Lib.hid (Bx.new (V := V) (H := H) hs)
  unfold datObj at HT0 HS0 HB0
  unfold dat
  clear E hs
  go_enter Try.func73, Try.ntmps73
  go_wp2_with fail
  generalize w.alloc _ = w1 at HT0 HS0 HB0 ⊢
  generalize w.heap.size = B at HB0 ⊢
  go_loopg [6, 7] (b - a) (fun gk si sj wr => ∃ (i j : Nat) (dk : Array I32), si = .int .i64 i ∧ sj = .int .i64 j ∧ a ≤ i ∧ j < b ∧ j - i ≤ gk ∧ dk.size = n ∧ Hid (PermIn a b d dk) ∧ Hid (St blk off n dk wr) ∧ Hid (Tr blk w1 wr))
  case atStart => exact ⟨a, b - 1, d, rfl, by go_num, Nat.le_refl _, by omega, by omega, hdn, Lib.hid (permIn_refl _ _ _), HS0, Lib.hid (Tr.refl _ _)⟩
  case round =>
    obtain ⟨i, j, dk, rfl, rfl, hai, hjb, hgk, hdk, HP, HS, HT⟩ := hrel
    clear HS0
    have c1 := (HB0.out.turn HT.out).swap
    by_cases hij : i < j
    · have hz : (i : Int) < (j : Int) := by omega
      obtain ⟨w4, hsw, hSs, hTs⟩ := HE.out.swapC HS.out (d := dk) (i := i) (j := j) (x := (i : Int)) (y := (j : Int)) (by omega) (by omega) rfl rfl
      have HS4 := Lib.hid hSs
      have HT4 := Lib.hid (HT.out.trans hTs)
      have HP4 := Lib.hid (permIn_trans _ _ _ a b HP.out (swp_permIn dk a b i j hai (by omega) (by omega) hjb (by omega)))
      have hsz := hSs.size
      clear hSs hTs HS
      go_wp2_with fail
      go_roundg (j - 1 - (i + 1))
      case measure => omega
      case rel => exact ⟨i + 1, j - 1, _, by go_num, by go_num, by omega, by omega, Nat.le_refl _, hsz, HP4, HS4, HT4⟩
    · have hz : ¬ (i : Int) < (j : Int) := by omega
      clear c1
      go_wp2_with fail
      go_end0
      exact ⟨rfl, dk, HP.out, HS.out, HT0.out.trans HT.out⟩
end Go.Proofs.Ytfcoecojjciphaa.srt
