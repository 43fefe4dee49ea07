/-
  petrelref01.Num of a number that fits.
  petrelref01.Ids: ids as bytes.
-/
import Derived.Test.YtbfjljbllfjicaaOpp
import Derived.Test.YtbfjljbllfjicaaRef2
import Derived.Test.YtbfjljbllfjicaaSha
import Derived.Test.YtbfjljbllfjicaaRdsa
import Derived.Deep.RegionHeld3
namespace Go.Proofs.Ytbfjljbllfjicaa.opn
open Go.RowKit Go.Proofs.Ytbfjljbllfjicaa.mem Go.Proofs.Ytbfjljbllfjicaa.sha

theorem tx_app (a b : List UInt8) : oct.tx a ++ oct.tx b = oct.tx (a ++ b) := by
  apply oct.bytes_ext
  rw [ByteArray.data_append, Array.toList_append, oct.tx_list, oct.tx_list, oct.tx_list]
theorem num1_r (n : Int) (h0 : 0 ≤ n) (h1 : n < 256) (w : World) : Calls Try.prog 24 #[.int .i64 n, .int .i64 1] w fun e w' => e = .returned (.tuple #[.string (oct.tx (b1 n)), .int .i64 0]) ∧ Below w.heap.size w w' := by
  have := oct.refnum_any n 1 w
  rw [show oct.refNum n 1 = (oct.tx (b1 n), 0) by
    unfold oct.refNum
    rw [if_neg (by unfold oct.numErr; rw [if_neg (by decide), if_neg (by simp; omega)]; decide)]
    rfl] at this
  exact this
theorem num4_r (n : Int) (h0 : 0 ≤ n) (h1 : n < 4294967296) (w : World) : Calls Try.prog 24 #[.int .i64 n, .int .i64 4] w fun e w' => e = .returned (.tuple #[.string (oct.tx (b4 n)), .int .i64 0]) ∧ Below w.heap.size w w' := by
  have := oct.refnum_any n 4 w
  rw [show oct.refNum n 4 = (oct.tx (b4 n), 0) by
    unfold oct.refNum
    rw [if_neg (by unfold oct.numErr; rw [if_neg (by decide), if_neg (by simp; omega)]; decide)]
    rfl] at this
  exact this

theorem num2_r (n : Int) (h0 : 0 ≤ n) (h1 : n < 65536) (w : World) : Calls Try.prog 24 #[.int .i64 n, .int .i64 2] w fun e w' => e = .returned (.tuple #[.string (oct.tx (b2 n)), .int .i64 0]) ∧ Below w.heap.size w w' := by
  have := oct.refnum_any n 2 w
  rw [show oct.refNum n 2 = (oct.tx (b2 n), 0) by
    unfold oct.refNum
    rw [if_neg (by unfold oct.numErr; rw [if_neg (by decide), if_neg (by simp; omega)]; decide)]
    rfl] at this
  exact this

end Go.Proofs.Ytbfjljbllfjicaa.opn

namespace Go.Proofs.Ytbfjljbllfjicaa.opn
open Go.RowKit Go.Proofs.Ytbfjljbllfjicaa.mem Go.Proofs.Ytbfjljbllfjicaa.sha Go.Proofs.Ytbfjljbllfjicaa.ids

theorem conv_one (w : World) (y : UInt8) : (convert 73 9 (.slice (some ⟨w.heap.size, 0, none⟩) 1 1)).run Try.prog (w.alloc (.cells #[.int .u8 (B y)] 5)) = .ok (.string (oct.tx [y])) (w.alloc (.cells #[.int .u8 (B y)] 5)) := by
  have h := run_convert_bytes_back (P := Try.prog) (w.alloc (.cells #[.int .u8 (B y)] 5)) 73 9 5 ⟨w.heap.size, 0, none⟩ 1 [y] Try.underlying73 Try.underlying5 Try.underlying9 (fun j hj => by
    obtain rfl : j = 0 := by simpa using hj
    exact new_cells w 5 (bCells [y]) 0 _ rfl)
  exact h
theorem tx_snoc (l : List UInt8) (y : UInt8) : oct.tx l ++ oct.tx [y] = oct.tx (l ++ [y]) := by
  apply oct.bytes_ext
  rw [ByteArray.data_append, Array.toList_append, oct.tx_list, oct.tx_list, oct.tx_list]
theorem flat_len {L : List (List UInt8)} (h : okIds L) : L.flatten.length = L.length * 32 := by
  induction L with
  | nil => rfl
  | cons x L ih =>
    rw [List.flatten_cons, List.length_append, h x List.mem_cons_self, ih fun y hy => h y (List.mem_cons_of_mem _ hy), List.length_cons]
    omega
theorem flat_step (L : List (List UInt8)) (i : Nat) (h : i < L.length) : (L.take (i + 1)).flatten = (L.take i).flatten ++ L.getD i [] := by
  rw [List.take_succ_eq_append_getElem h, List.flatten_append, List.getD_eq_getElem?_getD, List.getElem?_eq_getElem h]
  simp

set_option maxHeartbeats 2000000 in
set_option maxRecDepth 100000 in
theorem ids_any (L : List (List UInt8)) (ad : Option Addr) (n cap : Nat) (w : World) (hL : RdV w (.slice ad n cap) L) (hmax : L.length ≤ 255) :
    Calls Try.prog 26 #[.slice ad n cap] w fun e w' => e = .returned (.string (oct.tx (idl L))) ∧ Below w.heap.size w w' := by
  have hn := hL.len
  subst hn
  have e1 : oct.refNum L.length 1 = (oct.tx (b1 L.length), 0) := by
    unfold oct.refNum
    rw [if_neg (by unfold oct.numErr; rw [if_neg (by decide), if_neg (by simp; omega)]; decide)]
    rfl
  have HL := Lib.hid hL
  have E1 := Lib.hid e1
  have hOK := hL.1
  have HOK := Lib.hid hOK
  clear e1 hL hOK
  go_enter Try.func26, Try.ntmps26
  go_wp2_with (go_at_call 24; refine (oct.refnum_any L.length 1 _).mono ?_; rw [E1.out]; rintro e w1 ⟨rfl, hb1⟩; have HB1 := Lib.hid hb1; clear hb1)
  go_loopw [3, 5] (fun o i wr => ∃ k : Nat, k ≤ L.length ∧ i = .int .i64 k ∧ o = .string (oct.tx (b1 L.length ++ (L.take k).flatten)) ∧ Below w.heap.size w wr) (fun _ i _ => L.length - (intOf i).toNat)
  case atStart => exact ⟨0, Nat.zero_le _, rfl, by simp, HB1.out⟩
  case round =>
    clear HB1
    obtain ⟨k, hk, rfl, rfl, hB⟩ := hrel
    have HB := Lib.hid hB
    clear hB
    have k0 : (0 : Int) ≤ (k : Int) := Int.natCast_nonneg _
    by_cases hlt : k < L.length
    · have kI : (k : Int) < (L.length : Int) := by omega
      have HFS := Lib.hid (flat_step L k hlt)
      obtain ⟨x, hx⟩ : ∃ x, x = L.getD k [] := ⟨_, rfl⟩
      have hxl : x.length = 32 := by rw [hx]; exact HOK.out.get hlt
      have hpre : (b1 L.length ++ (L.take k).flatten).length ≤ 8161 := by
        rw [List.length_append, flat_len (HOK.out.take k), List.length_take]
        simp [b1]; omega
      rw [← hx] at HFS
      obtain ⟨p, hp⟩ : ∃ p, p = b1 L.length ++ (L.take k).flatten := ⟨_, rfl⟩
      rw [← hp] at hpre ⊢
      obtain ⟨b, off, rfl, hcells⟩ : ∃ b off, ad = some ⟨b, off, none⟩ ∧ ∀ u, Below w.heap.size w u → ∀ j, j < 32 → u.cell? ⟨b, off + k * 32 + j, none⟩ = some (.int .u8 (B (x.getD j 0))) := by
        obtain ⟨h1, h2, ad', cap', hv, h3, h4, h5, h6, h7⟩ := HL.out
        cases hv
        rcases h7 with h7 | ⟨b, off, h7, h8, h9⟩
        · exfalso
          have := fl_len HOK.out
          rw [h7] at this
          simp at this
          omega
        · refine ⟨b, off, h7, fun u hu j hj => ?_⟩
          have := h9 (k * 32 + j) _ (fl_get HOK.out hlt hj)
          rw [← hx] at this
          rw [Nat.add_assoc]
          exact ((Turn.ofBelow hu).cell (Nat.not_le.2 h8)).trans this
      have HC := Lib.hid hcells
      have HP := Lib.hid hp
      clear hcells hp hx
      go_wp2_with fail
      go_loopw [3, 6] (fun o i wr => ∃ j : Nat, j ≤ 32 ∧ i = .int .i64 j ∧ o = .string (oct.tx (p ++ x.take j)) ∧ Below w.heap.size w wr) (fun _ i _ => 32 - (intOf i).toNat)
      case atStart => exact ⟨0, by decide, rfl, by simp, HB.out⟩
      case round =>
        clear HB
        obtain ⟨j, hj, rfl, rfl, hB⟩ := hrel
        have HB := Lib.hid hB
        have j0 : (0 : Int) ≤ (j : Int) := Int.natCast_nonneg _
        by_cases hjl : j < 32
        · have jI : (j : Int) < 32 := by omega
          have hc := HC.out _ hB j hjl
          have hts : x.take (j + 1) = x.take j ++ [x.getD j 0] := by
            rw [List.take_succ_eq_append_getElem (by rw [hxl]; exact hjl), List.getD_eq_getElem?_getD, List.getElem?_eq_getElem (by rw [hxl]; exact hjl)]
            rfl
          have HTS := Lib.hid hts
          obtain ⟨y, hy⟩ : ∃ y, y = x.getD j 0 := ⟨_, rfl⟩
          rw [← hy] at hc HTS
          have hcv := fun u : World => conv_one u y
          have HS := Lib.hid (tx_snoc (p ++ x.take j) y)
          have hsz : (oct.tx (p ++ x.take j)).size ≤ 10000 := by rw [oct.tx_size, List.length_append, List.length_take]; omega
          have hsy : (oct.tx [y]).size = 1 := oct.tx_size _
          obtain ⟨q, hq⟩ : ∃ q, q = oct.tx (p ++ x.take j) := ⟨_, rfl⟩
          obtain ⟨yy, hyy⟩ : ∃ q, q = oct.tx [y] := ⟨_, rfl⟩
          rw [← hq] at hsz HS ⊢
          rw [← hyy] at hsy HS hcv
          clear hts hy hB hq hyy
          go_wp2_with fail
          go_roundw
          case rel => exact ⟨j + 1, hjl, by push_cast; rfl, by rw [HS.out, HTS.out, List.append_assoc], by exact (HB.out.alloc (by have := HB.out; exact this.size) _)⟩
          case measure => simp [intOf]; omega
        · obtain rfl : j = 32 := by omega
          have e32 : x.take 32 = x := List.take_of_length_le (by rw [hxl]; exact Nat.le_refl _)
          have HE := Lib.hid e32
          clear hB hjl e32
          go_wp2_with fail
          go_roundw
          case rel => exact ⟨k + 1, hlt, by push_cast; rfl, by rw [HE.out, HP.out, HFS.out, List.append_assoc], HB.out⟩
          case measure => simp [intOf]; omega
    · obtain rfl : k = L.length := by omega
      have e : L.take L.length = L := List.take_length
      rw [e]
      clear hlt e
      have hi : ¬ (L.length : Int) < (L.length : Int) := by omega
      go_wp2_with fail
      go_ret
      exact ⟨rfl, HB.out⟩
end Go.Proofs.Ytbfjljbllfjicaa.opn
