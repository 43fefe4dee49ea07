/-
  The landed wire: PutText, PutId, PutIds.
-/
import Derived.Test.YtbfjljbllfjicaaOpenms
import Derived.Test.YtbfjljbllfjicaaIdlc
import Derived.Test.YtbfjljbllfjicaaWrl
import Derived.Test.YtbfjljbllfjicaaIds
namespace Go.Proofs.Ytbfjljbllfjicaa.opn
open Go.RowKit Go.Proofs.Ytbfjljbllfjicaa.mem Go.Proofs.Ytbfjljbllfjicaa.sha Go.Proofs.Ytbfjljbllfjicaa.ids

theorem wid_s (F : Nat → Prop) (g : Nat) (out : List UInt8) (y : Id) (hy : y.length = 32) (w : World) (h : oct.WrIs w F g out 0) (hn : New F w) (hl : out.length ≤ 10000) :
    Calls Try.prog 47 #[.pointer (some ⟨g, 0, none⟩), idv y] w fun e w' => e = .returned (.tuple #[]) ∧ oct.WrIs w' F g (out ++ y) 0 ∧ Turn F w w' := by
  obtain ⟨w1, hw1⟩ : ∃ u, u = w.alloc (.cells (bv y).toArray 58) := ⟨_, rfl⟩
  have hX : Blk w1 w.heap.size 58 (bv y).toArray := by rw [hw1]; exact Blk.new w _ _
  have hB : Below w.heap.size w w1 := by rw [hw1]; exact (Below.refl _ _).alloc (Nat.le_refl _) _
  have ht1 : Turn F w w1 := Turn.fresh hB hn
  have HRAW := Lib.hid (wraw_s F g out (oct.tx y) w1 (h.fresh hB) (hn.turn ht1) (by omega) (by rw [oct.tx_size]; omega))
  have HC := Lib.hid (idText w1 w.heap.size y hy hX)
  rw [oct.tx_list] at HRAW
  have hsl := fun u : World => run_slice_id w.heap.size u
  have hcv := HC.out
  have HW := Lib.hid hw1
  have HT1 := Lib.hid ht1
  clear h hn hX hB hw1 ht1
  unfold idv
  go_enter Try.func47, Try.ntmps47
  go_upto_region 1 with fail
  refine wp_at HW.out.symm ?_
  clear HW
  go_wp2_with (go_at_call 55; (with_reducible refine HRAW.out.mono ?_); rintro e w3 ⟨rfl, hr3, ht3⟩)
  go_end0
  exact ⟨rfl, hr3, HT1.out.trans ht3⟩
set_option maxHeartbeats 2000000 in
set_option maxRecDepth 100000 in
theorem wids_s (F : Nat → Prop) (g : Nat) (out : List UInt8) (L : List Id) (v : Value) (w : World) (h : oct.WrIs w F g out 0) (hn : New F w) (hl : out.length ≤ 1000) (hL : L.length ≤ 255) (hvt : ∀ u, Turn F w u → RdV u v L) :
    Calls Try.prog 21 #[.pointer (some ⟨g, 0, none⟩), v] w fun e w' => e = .returned (.tuple #[]) ∧ oct.WrIs w' F g (out ++ idl L) 0 ∧ Turn F w w' := by
  have hv := hvt w (Turn.refl _ _)
  obtain ⟨ad, cap, rfl⟩ := hv.form
  have HNUM := Lib.hid (wnum1_s F g out L.length (Int.natCast_nonneg _) (by omega) w h hn (by omega))
  have HN := Lib.hid hn
  have HVT := Lib.hid hvt
  have HOK := Lib.hid hv.ok
  have HL := Lib.hid hL
  have HLO := Lib.hid hl
  clear h hn hl hv hL hvt
  go_enter Try.func21, Try.ntmps21
  go_wp2_with (go_at_call 19; (with_reducible refine HNUM.out.mono ?_); rintro e w2 ⟨rfl, hr2, ht2⟩; have HR2 := Lib.hid hr2; have HT2 := Lib.hid ht2; clear hr2 ht2)
  go_loopw [12] (fun i wr => ∃ k : Nat, k ≤ L.length ∧ i = .int .i64 (k : Int) ∧ oct.WrIs wr F g (out ++ b1 L.length ++ (L.take k).flatten) 0 ∧ Turn F w wr) (fun i _ => L.length - (intOf i).toNat)
  case atStart => exact ⟨0, Nat.zero_le _, rfl, by rw [List.take_zero, List.flatten_nil, List.append_nil]; exact HR2.out, HT2.out⟩
  case round =>
    clear HNUM HR2 HT2
    obtain ⟨k, hk, rfl, ho, ht⟩ := hrel
    have HO := Lib.hid ho
    have HT := Lib.hid ht
    have k0 : (0 : Int) ≤ (k : Int) := Int.natCast_nonneg _
    by_cases hlt : k < L.length
    · have kI : (k : Int) < (L.length : Int) := by omega
      have k8 : (k : Int) < 255 := by have := HL.out; omega
      have hrv := HVT.out wr ht
      obtain ⟨b, off, rfl, -, hb, hld⟩ := hrv.load hlt
      obtain ⟨y, hy⟩ : ∃ y, y = L.getD k [] := ⟨_, rfl⟩
      have hy32 : y.length = 32 := by rw [hy]; exact HOK.out.get hlt
      have hsn := flat_snoc L k hlt
      rw [← hy] at hsn hld
      have HSN := Lib.hid hsn
      have hld0 := hld 0
      obtain ⟨w3, hw3⟩ : ∃ u, u = (wr.alloc (.cells (bv zid).toArray 58)).setRow wr.heap.size (bv y).toArray := ⟨_, rfl⟩
      have hx0 : Blk (wr.alloc (.cells (bv zid).toArray 58)) wr.heap.size 58 (bv zid).toArray := Blk.new wr _ _
      have hx3 : Blk w3 wr.heap.size 58 (bv y).toArray := by rw [hw3]; exact Blk.stored hx0
      have hb3 : Below wr.heap.size wr w3 := by rw [hw3]; exact below_row' ((Below.refl _ _).alloc (Nat.le_refl _) _) (Nat.le_refl _) _
      have hn3 : New F wr := HN.out.turn ht
      have ht3 : Turn F wr w3 := Turn.fresh hb3 hn3
      have hbl := box_load (Blk.stored hx0 (y := y)) hy32 0
      have HWID := Lib.hid (wid_s F g _ y hy32 w3 (ho.fresh hb3) (hn3.turn ht3) (by rw [List.length_append, List.length_append, b1_len, flat_take_len HOK.out k]; have := HL.out; have := HLO.out; have := Nat.min_le_left k L.length; omega))
      have HY := Lib.hid hy32
      have HX0 := Lib.hid hx0
      have HT3 := Lib.hid (ht.trans ht3)
      have HW3 := Lib.hid hw3
      clear ho ht hrv hld hsn hw3 hx0 hx3 hb3 hn3 ht3 hy hy32 hlt hk
      go_wp2_with (first
        | ((with_reducible refine step_load (t := 58) (x := .tmp 14) (p := ?lpwi1) (v := ?lvwi1) ?lgwi1 ?lowi1 ?lxwi1 ?lrwi1 ?lhwi1); (case lgwi1 => rfl); (case lowi1 => rfl); (case lxwi1 => rfl); (case lrwi1 => exact hld0))
        | ((with_reducible refine step_store_id (x := .tmp 5) (y := .tmp 15) (g := ?srwi3) (z := ?szwi3) (y' := ?sywi3) ?sgwi3 ?sowi3 ?sawi3 ?sbwi3 ?scwi3 ?sdwi3 ?sewi3 ?shwi3); (case sgwi3 => rfl); (case sowi3 => rfl); (case sawi3 => rfl); (case sbwi3 => rfl); (case scwi3 => exact HX0.out); (case sdwi3 => exact zid_len); (case sewi3 => exact HY.out))
        | ((with_reducible refine step_load (t := 58) (x := .tmp 5) (p := ?lpwi2) (v := ?lvwi2) ?lgwi2 ?lowi2 ?lxwi2 ?lrwi2 ?lhwi2); (case lgwi2 => rfl); (case lowi2 => rfl); (case lxwi2 => rfl); (case lrwi2 => exact hbl))
        | (go_at_call 47; go_loud (refine lcalls_at HW3.out.symm ?_; refine HWID.out.mono ?_; rintro e w4 ⟨rfl, hr4, ht4⟩); have HR4 := Lib.hid hr4; have HT4 := Lib.hid ht4; clear hr4 ht4))
      go_roundw
      case rel => exact ⟨k + 1, by omega, by push_cast; rfl, by rw [HSN.out, ← List.append_assoc]; exact HR4.out, HT3.out.trans HT4.out⟩
      case measure => simp [intOf]; omega
    · obtain rfl : k = L.length := by omega
      have HE : Hid (out ++ idl L = out ++ b1 L.length ++ (L.take L.length).flatten) := Lib.hid (by rw [List.take_length]; unfold idl; rw [List.append_assoc])
      clear hlt ho ht hk
      go_wp2_with fail
      go_end0
      exact ⟨rfl, by rw [HE.out]; exact HO.out, HT.out⟩
end Go.Proofs.Ytbfjljbllfjicaa.opn
