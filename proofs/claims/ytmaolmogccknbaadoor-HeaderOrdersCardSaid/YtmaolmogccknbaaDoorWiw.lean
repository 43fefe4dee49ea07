/-
  Contracts of package octet's Writer, the rest: Text, Raw, Done.
  octet's Writer: numbers and raw bytes behind what was written.
  The landed wire: PutText, PutId, PutIds.
-/
import Derived.Test.YtmaolmogccknbaaDoorOctw
import Derived.Laws.IdiomStrings
import Derived.Laws.BytesArg
import Derived.Test.YtmaolmogccknbaaDoorOpp
import Derived.Test.YtmaolmogccknbaaDoorIdsc
import Derived.Test.YtmaolmogccknbaaDoorOctb
import Derived.Test.YtmaolmogccknbaaDoorIdcm
namespace Go.Proofs.YtmaolmogccknbaaDoor.oct
open Go.RowKit Go.Proofs.YtmaolmogccknbaaDoor.mem

theorem raw_stuck (p : Option Addr) (e0 : Int) (s : ByteArray) (w : World) (h : WFault w p e0) (h0 : e0 ≠ 0) :
    Calls Tryd.prog 88 #[.pointer p, .string s] w fun e w' => e = .returned (.pointer p) ∧ w = w' := by
  have hd : (e0 == 0) = false := by simpa using h0
  clear h0
  go_enter Tryd.func88, Tryd.ntmps88
  go_wp2_with (go_at_call 76; refine (fault_any _ _ _ h).mono ?_; rintro e w' ⟨rfl, rfl⟩)
  go_ret
  exact ⟨rfl, rfl⟩
theorem raw_good (F : Nat → Prop) (g : Nat) (out : List UInt8) (s : ByteArray) (w : World) (h : WrIs w F g out 0) (hn : New F w) (hl : out.length + s.size ≤ 140737488355328) :
    Calls Tryd.prog 88 #[.pointer (some ⟨g, 0, none⟩), .string s] w fun e w' => e = .returned (.pointer (some ⟨g, 0, none⟩)) ∧ WrIs w' F g (out ++ s.data.toList) 0 ∧ Turn F w w' := by
  obtain ⟨v, hw, ho, hF⟩ := h
  have c1 := hw.c1
  go_enter Tryd.func88, Tryd.ntmps88
  go_wp2_with (first
    | (go_at_call 76; refine (fault_ok _ _ _ _ hw).mono ?_; rintro e w' ⟨rfl, rfl⟩)
    | (at_builtin; go_must (refine wp_append_str rfl (.tmp 12) (.tmp 13) rfl (Row w v) _ v _ _ rfl ho.row s rfl hl (Row.new _ _) ?_); intro v2 w2 ho2 ht; obtain ⟨ad2, k2, cc2, rfl⟩ := ho2.form; have hw2 : WBlk w2 g v 0 := Blk.turn hw ht (Row.not ho hw); have d1 := hw2.c1; have f1 : w2.frozen? ⟨g, 1, none⟩ = false := Blk.frozen hw2 1))
  go_ret
  have ho2' : Owns w2 (Row w v) (.slice ad2 k2 cc2) (out.length + s.size) (bCells (out ++ s.data.toList)) := by
    rw [bCells_append]
    exact ho2
  have e : s.data.toList.length = s.size := by rw [Array.length_toList]; rfl
  exact ⟨rfl, WrIs.stored hw ho hn hF ho2' ht (by rw [List.length_append, e]), (ht.mono (Row.sub ho hn)).setCell hF _⟩
theorem done_stuck (p : Option Addr) (e0 : Int) (w : World) (h : WFault w p e0) (h0 : e0 ≠ 0) :
    Calls Tryd.prog 39 #[.pointer p] w fun e w' => e = .returned (.tuple #[.string ⟨#[]⟩, .int .i64 e0]) ∧ w = w' := by
  have hd : (e0 != 0) = true := by simpa using h0
  clear h0
  go_enter Tryd.func39, Tryd.ntmps39
  go_wp2_with (go_at_call 76; refine (fault_any _ _ _ h).mono ?_; rintro e w' ⟨rfl, rfl⟩)
  go_ret2
  exact ⟨rfl, rfl⟩
theorem done_good (F : Nat → Prop) (g : Nat) (out : List UInt8) (w : World) (h : WrIs w F g out 0) :
    Calls Tryd.prog 39 #[.pointer (some ⟨g, 0, none⟩)] w fun e w' => e = .returned (.tuple #[.string ⟨out.toArray⟩, .int .i64 0]) ∧ w = w' := by
  obtain ⟨v, hw, ho, hF⟩ := h
  have c1 := hw.c1
  have hcv := ho.string
  go_enter Tryd.func39, Tryd.ntmps39
  go_wp2_with (go_at_call 76; refine (fault_ok _ _ _ _ hw).mono ?_; rintro e w' ⟨rfl, rfl⟩)
  go_ret2
  exact ⟨rfl, rfl⟩
theorem raw_any (F : Nat → Prop) (g : Nat) (out : List UInt8) (err : Int) (s : ByteArray) (w : World) (h : WrIs w F g out err) (hn : New F w) (hl : err = 0 → out.length + s.size ≤ 140737488355328) :
    Calls Tryd.prog 88 #[.pointer (some ⟨g, 0, none⟩), .string s] w fun e w' => e = .returned (.pointer (some ⟨g, 0, none⟩)) ∧ WrIs w' F g (wRaw (out, err) s).1 (wRaw (out, err) s).2 ∧ Turn F w w' := by
  by_cases he : err = 0
  · subst he
    have e2 : wRaw (out, 0) s = (out ++ s.data.toList, 0) := by unfold wRaw; rw [if_neg (by simp)]
    rw [e2]
    exact raw_good F g out s w h hn (hl rfl)
  · have e2 : wRaw (out, err) s = (out, err) := by unfold wRaw; rw [if_pos he]
    rw [e2]
    refine (raw_stuck _ err s w h.fault he).mono fun e w' ⟨h1, h2⟩ => ?_
    subst h2
    exact ⟨h1, h, Turn.refl _ _⟩
theorem done_any (F : Nat → Prop) (g : Nat) (out : List UInt8) (err : Int) (w : World) (h : WrIs w F g out err) :
    Calls Tryd.prog 39 #[.pointer (some ⟨g, 0, none⟩)] w fun e w' => e = .returned (.tuple #[.string (wDone (out, err)).1, .int .i64 (wDone (out, err)).2]) ∧ w = w' := by
  by_cases he : err = 0
  · subst he
    have e2 : wDone (out, 0) = (⟨out.toArray⟩, 0) := by unfold wDone; rw [if_neg (by simp)]
    rw [e2]
    exact done_good F g out w h
  · have e2 : wDone (out, err) = (⟨#[]⟩, err) := by unfold wDone; rw [if_pos he]
    rw [e2]
    exact done_stuck _ err w h.fault he
end Go.Proofs.YtmaolmogccknbaaDoor.oct

namespace Go.Proofs.YtmaolmogccknbaaDoor.opn
open Go.RowKit Go.Proofs.YtmaolmogccknbaaDoor.mem

theorem lcalls_at {P : Program} {f : FuncId} {args : Array Value} {w w' : World} {Q : Ending → World → Prop} (h : w = w') (k : Calls P f args w' Q) : Calls P f args w Q := h ▸ k
theorem be_b1 (n : Int) : oct.be n 1 = b1 n := rfl
theorem be_b4 (n : Int) : oct.be n 4 = b4 n := rfl
theorem wNum1 (out : List UInt8) (n : Int) (h0 : 0 ≤ n) (h1 : n < 256) : oct.wNum (out, 0) n 1 = (out ++ b1 n, 0) := by
  have e : oct.numErr n 1 = 0 := by
    unfold oct.numErr
    rw [if_neg (by decide), if_neg (by rw [if_pos rfl]; omega)]
  unfold oct.wNum
  rw [if_neg (fun h => h rfl), if_neg (fun h => h e), be_b1]
theorem wNum4 (out : List UInt8) (n : Int) (h0 : 0 ≤ n) (h1 : n < 4294967296) : oct.wNum (out, 0) n 4 = (out ++ b4 n, 0) := by
  have e : oct.numErr n 4 = 0 := by
    unfold oct.numErr
    rw [if_neg (by decide), if_neg (by rw [if_neg (by decide), if_neg (by decide)]; omega)]
  unfold oct.wNum
  rw [if_neg (fun h => h rfl), if_neg (fun h => h e), be_b4]
theorem wnum1_s (F : Nat → Prop) (g : Nat) (out : List UInt8) (n : Int) (h0 : 0 ≤ n) (h1 : n < 256) (w : World) (h : oct.WrIs w F g out 0) (hn : New F w) (hl : out.length ≤ 100000) :
    Calls Tryd.prog 37 #[.pointer (some ⟨g, 0, none⟩), .int .i64 n, .int .i64 1] w fun e w' => e = .returned (.pointer (some ⟨g, 0, none⟩)) ∧ oct.WrIs w' F g (out ++ b1 n) 0 ∧ Turn F w w' := by
  have := oct.num_any F g out 0 n 1 w h hn (by omega) (by omega)
  rw [wNum1 out n h0 h1] at this
  exact this
theorem wnum4_s (F : Nat → Prop) (g : Nat) (out : List UInt8) (n : Int) (h0 : 0 ≤ n) (h1 : n < 4294967296) (w : World) (h : oct.WrIs w F g out 0) (hn : New F w) (hl : out.length ≤ 100000) :
    Calls Tryd.prog 37 #[.pointer (some ⟨g, 0, none⟩), .int .i64 n, .int .i64 4] w fun e w' => e = .returned (.pointer (some ⟨g, 0, none⟩)) ∧ oct.WrIs w' F g (out ++ b4 n) 0 ∧ Turn F w w' := by
  have := oct.num_any F g out 0 n 4 w h hn (by omega) (by omega)
  rw [wNum4 out n h0 h1] at this
  exact this
theorem wraw_s (F : Nat → Prop) (g : Nat) (out : List UInt8) (s : ByteArray) (w : World) (h : oct.WrIs w F g out 0) (hn : New F w) (hl : out.length ≤ 100000) (hs : s.size ≤ 100000) :
    Calls Tryd.prog 88 #[.pointer (some ⟨g, 0, none⟩), .string s] w fun e w' => e = .returned (.pointer (some ⟨g, 0, none⟩)) ∧ oct.WrIs w' F g (out ++ s.data.toList) 0 ∧ Turn F w w' := by
  have := oct.raw_any F g out 0 s w h hn (fun _ => by omega)
  rw [show oct.wRaw (out, 0) s = (out ++ s.data.toList, 0) by unfold oct.wRaw; rw [if_neg (fun h => h rfl)]] at this
  exact this
theorem be_b2 (n : Int) : oct.be n 2 = b2 n := rfl
theorem wNum2 (out : List UInt8) (n : Int) (h0 : 0 ≤ n) (h1 : n < 65536) : oct.wNum (out, 0) n 2 = (out ++ b2 n, 0) := by
  have e : oct.numErr n 2 = 0 := by
    unfold oct.numErr
    rw [if_neg (by decide), if_neg (by rw [if_neg (by decide), if_pos rfl]; omega)]
  unfold oct.wNum
  rw [if_neg (fun h => h rfl), if_neg (fun h => h e), be_b2]
theorem wnum2_s (F : Nat → Prop) (g : Nat) (out : List UInt8) (n : Int) (h0 : 0 ≤ n) (h1 : n < 65536) (w : World) (h : oct.WrIs w F g out 0) (hn : New F w) (hl : out.length ≤ 100000) :
    Calls Tryd.prog 37 #[.pointer (some ⟨g, 0, none⟩), .int .i64 n, .int .i64 2] w fun e w' => e = .returned (.pointer (some ⟨g, 0, none⟩)) ∧ oct.WrIs w' F g (out ++ b2 n) 0 ∧ Turn F w w' := by
  have := oct.num_any F g out 0 n 2 w h hn (by omega) (by omega)
  rw [wNum2 out n h0 h1] at this
  exact this
theorem WrIs.sub {w : World} {F G : Nat → Prop} {g : Nat} {out : List UInt8} {err : Int} (h : oct.WrIs w F g out err) (hG : ∀ b, b < w.heap.size → F b → G b) : oct.WrIs w G g out err := by
  obtain ⟨v, hb, ho, hg⟩ := h
  exact ⟨v, hb, ⟨ho.1, fun k hk => hG k (ho.lt hk) (ho.2 k hk)⟩, hG g (Blk.lt hb) hg⟩
theorem WrIs.new {w : World} {F : Nat → Prop} {g : Nat} (h : oct.WBlk w g (.slice none 0 0) 0) (hF : F g) : oct.WrIs w F g [] 0 := ⟨_, h, Owns.nil _ _, hF⟩
end Go.Proofs.YtmaolmogccknbaaDoor.opn

namespace Go.Proofs.YtmaolmogccknbaaDoor.opn
open Go.RowKit Go.Proofs.YtmaolmogccknbaaDoor.mem Go.Proofs.YtmaolmogccknbaaDoor.sha Go.Proofs.YtmaolmogccknbaaDoor.ids

theorem wtext_s (F : Nat → Prop) (g : Nat) (out : List UInt8) (s : ByteArray) (w : World) (h : oct.WrIs w F g out 0) (hn : New F w) (hl : out.length ≤ 1000) (hs : s.size < 256) :
    Calls Tryd.prog 63 #[.pointer (some ⟨g, 0, none⟩), .string s] w fun e w' => e = .returned (.tuple #[]) ∧ oct.WrIs w' F g (out ++ txt s.data.toList) 0 ∧ Turn F w w' := by
  have HNUM := Lib.hid (wnum1_s F g out s.size (Int.natCast_nonneg _) (by omega) w h hn (by omega))
  have HRAW := Lib.hid (fun (u : World) (hu : oct.WrIs u F g (out ++ b1 s.size) 0) (hn2 : New F u) => wraw_s F g (out ++ b1 s.size) s u hu hn2 (by rw [List.length_append, b1_len]; omega) (by omega))
  have HN := Lib.hid hn
  have HT : Hid (out ++ txt s.data.toList = out ++ b1 s.size ++ s.data.toList) := Lib.hid (by unfold txt; rw [Array.length_toList, List.append_assoc]; rfl)
  rw [HT.out]
  clear h hn hl hs
  go_enter Tryd.func63, Tryd.ntmps63
  go_wp2_with (first
    | (go_at_call 37; (with_reducible refine HNUM.out.mono ?_); rintro e w2 ⟨rfl, hr2, ht2⟩; have H2 := Lib.hid (HRAW.out w2 hr2 (HN.out.turn ht2)); clear hr2)
    | (go_at_call 88; (with_reducible refine H2.out.mono ?_); rintro e w3 ⟨rfl, hr3, ht3⟩))
  go_end0
  exact ⟨rfl, hr3, ht2.trans ht3⟩
theorem wid_s (F : Nat → Prop) (g : Nat) (out : List UInt8) (y : Id) (hy : y.length = 32) (w : World) (h : oct.WrIs w F g out 0) (hn : New F w) (hl : out.length ≤ 10000) :
    Calls Tryd.prog 64 #[.pointer (some ⟨g, 0, none⟩), idv y] w fun e w' => e = .returned (.tuple #[]) ∧ oct.WrIs w' F g (out ++ y) 0 ∧ Turn F w w' := by
  obtain ⟨w1, hw1⟩ : ∃ u, u = w.alloc (.cells (bv y).toArray 23) := ⟨_, rfl⟩
  have hX : Blk w1 w.heap.size 23 (bv y).toArray := by rw [hw1]; exact Blk.new w _ _
  have hB : Below w.heap.size w w1 := by rw [hw1]; exact (Below.refl _ _).alloc (Nat.le_refl _) _
  have ht1 : Turn F w w1 := Turn.fresh hB hn
  have HRAW := Lib.hid (wraw_s F g out (oct.tx y) w1 (h.fresh hB) (hn.turn ht1) (by omega) (by rw [oct.tx_size]; omega))
  have HC := Lib.hid (idText w1 w.heap.size y hy hX)
  rw [oct.tx_list] at HRAW
  have hsl := fun u : World => run_slice_id w.heap.size u
  have hcv := HC.out
  have HW := Lib.hid hw1
  have HT1 := Lib.hid ht1
  clear h hn hX hB hw1 ht1
  unfold idv
  go_enter Tryd.func64, Tryd.ntmps64
  go_upto_region 1 with fail
  refine wp_at HW.out.symm ?_
  clear HW
  go_wp2_with (go_at_call 88; (with_reducible refine HRAW.out.mono ?_); rintro e w3 ⟨rfl, hr3, ht3⟩)
  go_end0
  exact ⟨rfl, hr3, HT1.out.trans ht3⟩
set_option maxHeartbeats 2000000 in
set_option maxRecDepth 100000 in
theorem wids_s (F : Nat → Prop) (g : Nat) (out : List UInt8) (L : List Id) (v : Value) (w : World) (h : oct.WrIs w F g out 0) (hn : New F w) (hl : out.length ≤ 1000) (hL : L.length ≤ 8) (hvt : ∀ u, Turn F w u → RdV u v L) :
    Calls Tryd.prog 62 #[.pointer (some ⟨g, 0, none⟩), v] w fun e w' => e = .returned (.tuple #[]) ∧ oct.WrIs w' F g (out ++ idl L) 0 ∧ Turn F w w' := by
  have hv := hvt w (Turn.refl _ _)
  obtain ⟨ad, cap, rfl⟩ := hv.form
  have HNUM := Lib.hid (wnum1_s F g out L.length (Int.natCast_nonneg _) (by omega) w h hn (by omega))
  have HN := Lib.hid hn
  have HVT := Lib.hid hvt
  have HOK := Lib.hid hv.ok
  have HL := Lib.hid hL
  have HLO := Lib.hid hl
  clear h hn hl hv hL hvt
  go_enter Tryd.func62, Tryd.ntmps62
  go_wp2_with (go_at_call 37; (with_reducible refine HNUM.out.mono ?_); rintro e w2 ⟨rfl, hr2, ht2⟩; have HR2 := Lib.hid hr2; have HT2 := Lib.hid ht2; clear hr2 ht2)
  go_loopw [12] (fun i wr => ∃ k : Nat, k ≤ L.length ∧ i = .int .i64 (k : Int) ∧ oct.WrIs wr F g (out ++ b1 L.length ++ (L.take k).flatten) 0 ∧ Turn F w wr) (fun i _ => L.length - (intOf i).toNat)
  case atStart => exact ⟨0, Nat.zero_le _, rfl, by rw [List.take_zero, List.flatten_nil, List.append_nil]; exact HR2.out, HT2.out⟩
  case round =>
    clear HNUM HR2 HT2
    obtain ⟨k, hk, rfl, ho, ht⟩ := hrel
    have HO := Lib.hid ho
    have HT := Lib.hid ht
    have k0 : (0 : Int) ≤ (k : Int) := Int.natCast_nonneg _
    by_cases hlt : k < L.length
    · have kI : (k : Int) < (L.length : Int) := by omega
      have k8 : (k : Int) < 8 := by have := HL.out; omega
      have hrv := HVT.out wr ht
      obtain ⟨b, off, rfl, -, hb, hld⟩ := hrv.load hlt
      obtain ⟨y, hy⟩ : ∃ y, y = L.getD k [] := ⟨_, rfl⟩
      have hy32 : y.length = 32 := by rw [hy]; exact HOK.out.get hlt
      have hsn := flat_snoc L k hlt
      rw [← hy] at hsn hld
      have HSN := Lib.hid hsn
      have hld0 := hld 0
      obtain ⟨w3, hw3⟩ : ∃ u, u = (wr.alloc (.cells (bv zid).toArray 23)).setRow wr.heap.size (bv y).toArray := ⟨_, rfl⟩
      have hx0 : Blk (wr.alloc (.cells (bv zid).toArray 23)) wr.heap.size 23 (bv zid).toArray := Blk.new wr _ _
      have hx3 : Blk w3 wr.heap.size 23 (bv y).toArray := by rw [hw3]; exact Blk.stored hx0
      have hb3 : Below wr.heap.size wr w3 := by rw [hw3]; exact below_row' ((Below.refl _ _).alloc (Nat.le_refl _) _) (Nat.le_refl _) _
      have hn3 : New F wr := HN.out.turn ht
      have ht3 : Turn F wr w3 := Turn.fresh hb3 hn3
      have hbl := box_load (Blk.stored hx0 (y := y)) hy32 0
      have HWID := Lib.hid (wid_s F g _ y hy32 w3 (ho.fresh hb3) (hn3.turn ht3) (by rw [List.length_append, List.length_append, b1_len, flat_take_len HOK.out k]; have := HL.out; have := HLO.out; have := Nat.min_le_left k L.length; omega))
      have HY := Lib.hid hy32
      have HX0 := Lib.hid hx0
      have HT3 := Lib.hid (ht.trans ht3)
      have HW3 := Lib.hid hw3
      clear ho ht hrv hld hsn hw3 hx0 hx3 hb3 hn3 ht3 hy hy32 hlt hk
      go_wp2_with (first
        | ((with_reducible refine step_load (t := 23) (x := .tmp 14) (p := ?lpwi1) (v := ?lvwi1) ?lgwi1 ?lowi1 ?lxwi1 ?lrwi1 ?lhwi1); (case lgwi1 => rfl); (case lowi1 => rfl); (case lxwi1 => rfl); (case lrwi1 => exact hld0))
        | ((with_reducible refine step_store_id (x := .tmp 5) (y := .tmp 15) (g := ?srwi3) (z := ?szwi3) (y' := ?sywi3) ?sgwi3 ?sowi3 ?sawi3 ?sbwi3 ?scwi3 ?sdwi3 ?sewi3 ?shwi3); (case sgwi3 => rfl); (case sowi3 => rfl); (case sawi3 => rfl); (case sbwi3 => rfl); (case scwi3 => exact HX0.out); (case sdwi3 => exact zid_len); (case sewi3 => exact HY.out))
        | ((with_reducible refine step_load (t := 23) (x := .tmp 5) (p := ?lpwi2) (v := ?lvwi2) ?lgwi2 ?lowi2 ?lxwi2 ?lrwi2 ?lhwi2); (case lgwi2 => rfl); (case lowi2 => rfl); (case lxwi2 => rfl); (case lrwi2 => exact hbl))
        | (go_at_call 64; go_loud (refine lcalls_at HW3.out.symm ?_; refine HWID.out.mono ?_; rintro e w4 ⟨rfl, hr4, ht4⟩); have HR4 := Lib.hid hr4; have HT4 := Lib.hid ht4; clear hr4 ht4))
      go_roundw
      case rel => exact ⟨k + 1, by omega, by push_cast; rfl, by rw [HSN.out, ← List.append_assoc]; exact HR4.out, HT3.out.trans HT4.out⟩
      case measure => simp [intOf]; omega
    · obtain rfl : k = L.length := by omega
      have HE : Hid (out ++ idl L = out ++ b1 L.length ++ (L.take L.length).flatten) := Lib.hid (by rw [List.take_length]; unfold idl; rw [List.append_assoc])
      clear hlt ho ht hk
      go_wp2_with fail
      go_end0
      exact ⟨rfl, by rw [HE.out]; exact HO.out, HT.out⟩
end Go.Proofs.YtmaolmogccknbaaDoor.opn
