/-
  Contracts of package octet's Writer, the rest: Text, Raw, Done.
  octet's Writer: numbers and raw bytes behind what was written.
  The landed wire: PutId.
  The landed wire: PutText.
-/
import Derived.Test.YtbhkegdohiekfaaDoorOctw
import Derived.Laws.IdiomStrings
import Derived.Laws.BytesArg
import Derived.Test.YtbhkegdohiekfaaDoorOpp
import Derived.Test.YtbhkegdohiekfaaDoorOpia
import Derived.Test.YtbhkegdohiekfaaDoorOctb
namespace Go.Proofs.YtbhkegdohiekfaaDoor.oct
open Go.RowKit Go.Proofs.YtbhkegdohiekfaaDoor.mem

theorem raw_stuck (p : Option Addr) (e0 : Int) (s : ByteArray) (w : World) (h : WFault w p e0) (h0 : e0 ≠ 0) :
    Calls Tryd.prog 22 #[.pointer p, .string s] w fun e w' => e = .returned (.pointer p) ∧ w = w' := by
  have hd : (e0 == 0) = false := by simpa using h0
  clear h0
  go_enter Tryd.func22, Tryd.ntmps22
  go_wp2_with (go_at_call 41; refine (fault_any _ _ _ h).mono ?_; rintro e w' ⟨rfl, rfl⟩)
  go_ret
  exact ⟨rfl, rfl⟩
theorem raw_good (F : Nat → Prop) (g : Nat) (out : List UInt8) (s : ByteArray) (w : World) (h : WrIs w F g out 0) (hn : New F w) (hl : out.length + s.size ≤ 140737488355328) :
    Calls Tryd.prog 22 #[.pointer (some ⟨g, 0, none⟩), .string s] w fun e w' => e = .returned (.pointer (some ⟨g, 0, none⟩)) ∧ WrIs w' F g (out ++ s.data.toList) 0 ∧ Turn F w w' := by
  obtain ⟨v, hw, ho, hF⟩ := h
  have c1 := hw.c1
  go_enter Tryd.func22, Tryd.ntmps22
  go_wp2_with (first
    | (go_at_call 41; refine (fault_ok _ _ _ _ hw).mono ?_; rintro e w' ⟨rfl, rfl⟩)
    | (at_builtin; go_must (refine wp_append_str rfl (.tmp 12) (.tmp 13) rfl (Row w v) _ v _ _ rfl ho.row s rfl hl (Row.new _ _) ?_); intro v2 w2 ho2 ht; obtain ⟨ad2, k2, cc2, rfl⟩ := ho2.form; have hw2 : WBlk w2 g v 0 := Blk.turn hw ht (Row.not ho hw); have d1 := hw2.c1; have f1 : w2.frozen? ⟨g, 1, none⟩ = false := Blk.frozen hw2 1))
  go_ret
  have ho2' : Owns w2 (Row w v) (.slice ad2 k2 cc2) (out.length + s.size) (bCells (out ++ s.data.toList)) := by
    rw [bCells_append]
    exact ho2
  have e : s.data.toList.length = s.size := by rw [Array.length_toList]; rfl
  exact ⟨rfl, WrIs.stored hw ho hn hF ho2' ht (by rw [List.length_append, e]), (ht.mono (Row.sub ho hn)).setCell hF _⟩
theorem done_stuck (p : Option Addr) (e0 : Int) (w : World) (h : WFault w p e0) (h0 : e0 ≠ 0) :
    Calls Tryd.prog 23 #[.pointer p] w fun e w' => e = .returned (.tuple #[.string ⟨#[]⟩, .int .i64 e0]) ∧ w = w' := by
  have hd : (e0 != 0) = true := by simpa using h0
  clear h0
  go_enter Tryd.func23, Tryd.ntmps23
  go_wp2_with (go_at_call 41; refine (fault_any _ _ _ h).mono ?_; rintro e w' ⟨rfl, rfl⟩)
  go_ret2
  exact ⟨rfl, rfl⟩
theorem done_good (F : Nat → Prop) (g : Nat) (out : List UInt8) (w : World) (h : WrIs w F g out 0) :
    Calls Tryd.prog 23 #[.pointer (some ⟨g, 0, none⟩)] w fun e w' => e = .returned (.tuple #[.string ⟨out.toArray⟩, .int .i64 0]) ∧ w = w' := by
  obtain ⟨v, hw, ho, hF⟩ := h
  have c1 := hw.c1
  have hcv := ho.string
  go_enter Tryd.func23, Tryd.ntmps23
  go_wp2_with (go_at_call 41; refine (fault_ok _ _ _ _ hw).mono ?_; rintro e w' ⟨rfl, rfl⟩)
  go_ret2
  exact ⟨rfl, rfl⟩
theorem raw_any (F : Nat → Prop) (g : Nat) (out : List UInt8) (err : Int) (s : ByteArray) (w : World) (h : WrIs w F g out err) (hn : New F w) (hl : err = 0 → out.length + s.size ≤ 140737488355328) :
    Calls Tryd.prog 22 #[.pointer (some ⟨g, 0, none⟩), .string s] w fun e w' => e = .returned (.pointer (some ⟨g, 0, none⟩)) ∧ WrIs w' F g (wRaw (out, err) s).1 (wRaw (out, err) s).2 ∧ Turn F w w' := by
  by_cases he : err = 0
  · subst he
    have e2 : wRaw (out, 0) s = (out ++ s.data.toList, 0) := by unfold wRaw; rw [if_neg (by simp)]
    rw [e2]
    exact raw_good F g out s w h hn (hl rfl)
  · have e2 : wRaw (out, err) s = (out, err) := by unfold wRaw; rw [if_pos he]
    rw [e2]
    refine (raw_stuck _ err s w h.fault he).mono fun e w' ⟨h1, h2⟩ => ?_
    subst h2
    exact ⟨h1, h, Turn.refl _ _⟩
theorem done_any (F : Nat → Prop) (g : Nat) (out : List UInt8) (err : Int) (w : World) (h : WrIs w F g out err) :
    Calls Tryd.prog 23 #[.pointer (some ⟨g, 0, none⟩)] w fun e w' => e = .returned (.tuple #[.string (wDone (out, err)).1, .int .i64 (wDone (out, err)).2]) ∧ w = w' := by
  by_cases he : err = 0
  · subst he
    have e2 : wDone (out, 0) = (⟨out.toArray⟩, 0) := by unfold wDone; rw [if_neg (by simp)]
    rw [e2]
    exact done_good F g out w h
  · have e2 : wDone (out, err) = (⟨#[]⟩, err) := by unfold wDone; rw [if_pos he]
    rw [e2]
    exact done_stuck _ err w h.fault he
end Go.Proofs.YtbhkegdohiekfaaDoor.oct

namespace Go.Proofs.YtbhkegdohiekfaaDoor.opn
open Go.RowKit Go.Proofs.YtbhkegdohiekfaaDoor.mem

theorem lcalls_at {P : Program} {f : FuncId} {args : Array Value} {w w' : World} {Q : Ending → World → Prop} (h : w = w') (k : Calls P f args w' Q) : Calls P f args w Q := h ▸ k
theorem be_b1 (n : Int) : oct.be n 1 = b1 n := rfl
theorem be_b4 (n : Int) : oct.be n 4 = b4 n := rfl
theorem wNum1 (out : List UInt8) (n : Int) (h0 : 0 ≤ n) (h1 : n < 256) : oct.wNum (out, 0) n 1 = (out ++ b1 n, 0) := by
  have e : oct.numErr n 1 = 0 := by
    unfold oct.numErr
    rw [if_neg (by decide), if_neg (by rw [if_pos rfl]; omega)]
  unfold oct.wNum
  rw [if_neg (fun h => h rfl), if_neg (fun h => h e), be_b1]
theorem wNum4 (out : List UInt8) (n : Int) (h0 : 0 ≤ n) (h1 : n < 4294967296) : oct.wNum (out, 0) n 4 = (out ++ b4 n, 0) := by
  have e : oct.numErr n 4 = 0 := by
    unfold oct.numErr
    rw [if_neg (by decide), if_neg (by rw [if_neg (by decide), if_neg (by decide)]; omega)]
  unfold oct.wNum
  rw [if_neg (fun h => h rfl), if_neg (fun h => h e), be_b4]
theorem wnum1_s (F : Nat → Prop) (g : Nat) (out : List UInt8) (n : Int) (h0 : 0 ≤ n) (h1 : n < 256) (w : World) (h : oct.WrIs w F g out 0) (hn : New F w) (hl : out.length ≤ 100000) :
    Calls Tryd.prog 18 #[.pointer (some ⟨g, 0, none⟩), .int .i64 n, .int .i64 1] w fun e w' => e = .returned (.pointer (some ⟨g, 0, none⟩)) ∧ oct.WrIs w' F g (out ++ b1 n) 0 ∧ Turn F w w' := by
  have := oct.num_any F g out 0 n 1 w h hn (by omega) (by omega)
  rw [wNum1 out n h0 h1] at this
  exact this
theorem wnum4_s (F : Nat → Prop) (g : Nat) (out : List UInt8) (n : Int) (h0 : 0 ≤ n) (h1 : n < 4294967296) (w : World) (h : oct.WrIs w F g out 0) (hn : New F w) (hl : out.length ≤ 100000) :
    Calls Tryd.prog 18 #[.pointer (some ⟨g, 0, none⟩), .int .i64 n, .int .i64 4] w fun e w' => e = .returned (.pointer (some ⟨g, 0, none⟩)) ∧ oct.WrIs w' F g (out ++ b4 n) 0 ∧ Turn F w w' := by
  have := oct.num_any F g out 0 n 4 w h hn (by omega) (by omega)
  rw [wNum4 out n h0 h1] at this
  exact this
theorem wraw_s (F : Nat → Prop) (g : Nat) (out : List UInt8) (s : ByteArray) (w : World) (h : oct.WrIs w F g out 0) (hn : New F w) (hl : out.length ≤ 100000) (hs : s.size ≤ 100000) :
    Calls Tryd.prog 22 #[.pointer (some ⟨g, 0, none⟩), .string s] w fun e w' => e = .returned (.pointer (some ⟨g, 0, none⟩)) ∧ oct.WrIs w' F g (out ++ s.data.toList) 0 ∧ Turn F w w' := by
  have := oct.raw_any F g out 0 s w h hn (fun _ => by omega)
  rw [show oct.wRaw (out, 0) s = (out ++ s.data.toList, 0) by unfold oct.wRaw; rw [if_neg (fun h => h rfl)]] at this
  exact this
theorem be_b2 (n : Int) : oct.be n 2 = b2 n := rfl
theorem wNum2 (out : List UInt8) (n : Int) (h0 : 0 ≤ n) (h1 : n < 65536) : oct.wNum (out, 0) n 2 = (out ++ b2 n, 0) := by
  have e : oct.numErr n 2 = 0 := by
    unfold oct.numErr
    rw [if_neg (by decide), if_neg (by rw [if_neg (by decide), if_pos rfl]; omega)]
  unfold oct.wNum
  rw [if_neg (fun h => h rfl), if_neg (fun h => h e), be_b2]
theorem wnum2_s (F : Nat → Prop) (g : Nat) (out : List UInt8) (n : Int) (h0 : 0 ≤ n) (h1 : n < 65536) (w : World) (h : oct.WrIs w F g out 0) (hn : New F w) (hl : out.length ≤ 100000) :
    Calls Tryd.prog 18 #[.pointer (some ⟨g, 0, none⟩), .int .i64 n, .int .i64 2] w fun e w' => e = .returned (.pointer (some ⟨g, 0, none⟩)) ∧ oct.WrIs w' F g (out ++ b2 n) 0 ∧ Turn F w w' := by
  have := oct.num_any F g out 0 n 2 w h hn (by omega) (by omega)
  rw [wNum2 out n h0 h1] at this
  exact this
theorem WrIs.sub {w : World} {F G : Nat → Prop} {g : Nat} {out : List UInt8} {err : Int} (h : oct.WrIs w F g out err) (hG : ∀ b, b < w.heap.size → F b → G b) : oct.WrIs w G g out err := by
  obtain ⟨v, hb, ho, hg⟩ := h
  exact ⟨v, hb, ⟨ho.1, fun k hk => hG k (ho.lt hk) (ho.2 k hk)⟩, hG g (Blk.lt hb) hg⟩
theorem WrIs.new {w : World} {F : Nat → Prop} {g : Nat} (h : oct.WBlk w g (.slice none 0 0) 0) (hF : F g) : oct.WrIs w F g [] 0 := ⟨_, h, Owns.nil _ _, hF⟩
end Go.Proofs.YtbhkegdohiekfaaDoor.opn

namespace Go.Proofs.YtbhkegdohiekfaaDoor.opn
open Go.RowKit Go.Proofs.YtbhkegdohiekfaaDoor.mem Go.Proofs.YtbhkegdohiekfaaDoor.sha Go.Proofs.YtbhkegdohiekfaaDoor.ids

theorem wid_s (F : Nat → Prop) (g : Nat) (out : List UInt8) (y : Id) (hy : y.length = 32) (w : World) (h : oct.WrIs w F g out 0) (hn : New F w) (hl : out.length ≤ 10000) :
    Calls Tryd.prog 21 #[.pointer (some ⟨g, 0, none⟩), idv y] w fun e w' => e = .returned (.tuple #[]) ∧ oct.WrIs w' F g (out ++ y) 0 ∧ Turn F w w' := by
  obtain ⟨w1, hw1⟩ : ∃ u, u = w.alloc (.cells (bv y).toArray 23) := ⟨_, rfl⟩
  have hX : Blk w1 w.heap.size 23 (bv y).toArray := by rw [hw1]; exact Blk.new w _ _
  have hB : Below w.heap.size w w1 := by rw [hw1]; exact (Below.refl _ _).alloc (Nat.le_refl _) _
  have ht1 : Turn F w w1 := Turn.fresh hB hn
  have HRAW := Lib.hid (wraw_s F g out (oct.tx y) w1 (h.fresh hB) (hn.turn ht1) (by omega) (by rw [oct.tx_size]; omega))
  have HC := Lib.hid (idText w1 w.heap.size y hy hX)
  rw [oct.tx_list] at HRAW
  have hsl := fun u : World => run_slice_id w.heap.size u
  have hcv := HC.out
  have HW := Lib.hid hw1
  have HT1 := Lib.hid ht1
  clear h hn hX hB hw1 ht1
  unfold idv
  go_enter Tryd.func21, Tryd.ntmps21
  go_upto_region 1 with fail
  refine wp_at HW.out.symm ?_
  clear HW
  go_wp2_with (go_at_call 22; (with_reducible refine HRAW.out.mono ?_); rintro e w3 ⟨rfl, hr3, ht3⟩)
  go_end0
  exact ⟨rfl, hr3, HT1.out.trans ht3⟩
end Go.Proofs.YtbhkegdohiekfaaDoor.opn

namespace Go.Proofs.YtbhkegdohiekfaaDoor.opn
open Go.RowKit Go.Proofs.YtbhkegdohiekfaaDoor.mem

theorem wtext_s (F : Nat → Prop) (g : Nat) (out : List UInt8) (s : ByteArray) (w : World) (h : oct.WrIs w F g out 0) (hn : New F w) (hl : out.length ≤ 1000) (hs : s.size < 256) :
    Calls Tryd.prog 20 #[.pointer (some ⟨g, 0, none⟩), .string s] w fun e w' => e = .returned (.tuple #[]) ∧ oct.WrIs w' F g (out ++ txt s.data.toList) 0 ∧ Turn F w w' := by
  have HNUM := Lib.hid (wnum1_s F g out s.size (Int.natCast_nonneg _) (by omega) w h hn (by omega))
  have HRAW := Lib.hid (fun (u : World) (hu : oct.WrIs u F g (out ++ b1 s.size) 0) (hn2 : New F u) => wraw_s F g (out ++ b1 s.size) s u hu hn2 (by rw [List.length_append, b1_len]; omega) (by omega))
  have HN := Lib.hid hn
  have HT : Hid (out ++ txt s.data.toList = out ++ b1 s.size ++ s.data.toList) := Lib.hid (by unfold txt; rw [Array.length_toList, List.append_assoc]; rfl)
  rw [HT.out]
  clear h hn hl hs
  go_enter Tryd.func20, Tryd.ntmps20
  go_wp2_with (first
    | (go_at_call 18; (with_reducible refine HNUM.out.mono ?_); rintro e w2 ⟨rfl, hr2, ht2⟩; have H2 := Lib.hid (HRAW.out w2 hr2 (HN.out.turn ht2)); clear hr2)
    | (go_at_call 22; (with_reducible refine H2.out.mono ?_); rintro e w3 ⟨rfl, hr3, ht3⟩))
  go_end0
  exact ⟨rfl, hr3, ht2.trans ht3⟩
end Go.Proofs.YtbhkegdohiekfaaDoor.opn
