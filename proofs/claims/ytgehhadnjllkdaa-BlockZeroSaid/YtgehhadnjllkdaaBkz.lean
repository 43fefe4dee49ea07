/-
  The walk of BlockZero: a file that nobody made has nothing.
-/
import Derived.Test.YtgehhadnjllkdaaBln
namespace Go.Proofs.Ytgehhadnjllkdaa.bk
open Go.RowKit Go.Proofs.Ytgehhadnjllkdaa.mem Go.Proofs.Ytgehhadnjllkdaa.sha Go.Proofs.Ytgehhadnjllkdaa.strx

set_option maxHeartbeats 4000000 in
set_option maxRecDepth 100000 in
theorem zero_walk (s : ByteArray) (n : Int) (w : World) : Calls Try.prog 5 #[.string s, .int .i64 n] w fun e w' => e = .returned (.bool true) ∧ Below w.heap.size w w' := by
  obtain ⟨u, hu⟩ : ∃ u, u = w.alloc (.cells #[.pointer none, .slice none 0 0, .int .i64 0] 42) := ⟨_, rfl⟩
  obtain ⟨g, hg⟩ : ∃ g, g = w.heap.size := ⟨_, rfl⟩
  have hN : ∀ v : World, BlkNo v (.pointer none) := fun v => .inl rfl
  have hZ : BlkNo u (.pointer (some ⟨g, 0, none⟩)) := .inr ⟨g, rfl, by rw [hu, hg]; exact Blk.new w _ _⟩
  have HB := Lib.hid (show Below w.heap.size w u by rw [hu]; exact (Below.refl _ w).alloc (Nat.le_refl _) _)
  have HNWrite := Lib.hid (write_no (.pointer none) s u (hN u))
  have HZWrite := Lib.hid (write_no _ s u hZ)
  have HNCut := Lib.hid (cut_no (.pointer none) n u (hN u))
  have HZCut := Lib.hid (cut_no _ n u hZ)
  have HNSync := Lib.hid (sync_no (.pointer none) u (hN u))
  have HZSync := Lib.hid (sync_no _ u hZ)
  have HNCrash := Lib.hid (crash_no (.pointer none) n u (hN u))
  have HZCrash := Lib.hid (crash_no _ n u hZ)
  have HNSize := Lib.hid (size_no (.pointer none) u (hN u))
  have HZSize := Lib.hid (size_no _ u hZ)
  have HNTail := Lib.hid (tail_no (.pointer none) u (hN u))
  have HZTail := Lib.hid (tail_no _ u hZ)
  have HNData := Lib.hid (data_no (.pointer none) u (hN u))
  have HZData := Lib.hid (data_no _ u hZ)
  have HA := Lib.hid (awake_any bk_is u trivial)
  clear hN hZ
  have he : ((⟨#[]⟩ : ByteArray) ++ ⟨#[]⟩).toList = [] := by decide +kernel
  go_enter Try.func5, Try.ntmps5
  go_wp2_with (first
    | (go_at_call 7; (rw [← hu, ← hg]; clear hu hg; (with_reducible refine HNWrite.out.mono ?_); rintro e w2 ⟨rfl, rfl⟩))
    | (go_at_call 7; (with_reducible refine HNWrite.out.mono ?_); rintro e w2 ⟨rfl, rfl⟩)
    | (go_at_call 7; (with_reducible refine HZWrite.out.mono ?_); rintro e w2 ⟨rfl, rfl⟩)
    | (go_at_call 9; (with_reducible refine HNCut.out.mono ?_); rintro e w2 ⟨rfl, rfl⟩)
    | (go_at_call 9; (with_reducible refine HZCut.out.mono ?_); rintro e w2 ⟨rfl, rfl⟩)
    | (go_at_call 8; (with_reducible refine HNSync.out.mono ?_); rintro e w2 ⟨rfl, rfl⟩)
    | (go_at_call 8; (with_reducible refine HZSync.out.mono ?_); rintro e w2 ⟨rfl, rfl⟩)
    | (go_at_call 11; (with_reducible refine HNCrash.out.mono ?_); rintro e w2 ⟨rfl, rfl⟩)
    | (go_at_call 11; (with_reducible refine HZCrash.out.mono ?_); rintro e w2 ⟨rfl, rfl⟩)
    | (go_at_call 14; (with_reducible refine HNSize.out.mono ?_); rintro e w2 ⟨rfl, rfl⟩)
    | (go_at_call 14; (with_reducible refine HZSize.out.mono ?_); rintro e w2 ⟨rfl, rfl⟩)
    | (go_at_call 15; (with_reducible refine HNTail.out.mono ?_); rintro e w2 ⟨rfl, rfl⟩)
    | (go_at_call 15; (with_reducible refine HZTail.out.mono ?_); rintro e w2 ⟨rfl, rfl⟩)
    | (go_at_call 13; (with_reducible refine HNData.out.mono ?_); rintro e w2 ⟨rfl, rfl⟩)
    | (go_at_call 13; (with_reducible refine HZData.out.mono ?_); rintro e w2 ⟨rfl, rfl⟩)
    | (go_at_call 16; (with_reducible refine HA.out.mono ?_); rintro e w3 ⟨rfl, hb3⟩))
  go_ret
  exact ⟨rfl, HB.out.trans (hb3.mono HB.out.size)⟩
end Go.Proofs.Ytgehhadnjllkdaa.bk
