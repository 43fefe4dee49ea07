/-
  petrelref01.Ids: ids as bytes.
  petrelref07: the document's answer for operations: what a kind has.
-/
import Derived.Test.YtmaolmogccknbaaDoorOpi
import Derived.Test.YtmaolmogccknbaaDoorRef2
import Derived.Deep.RegionHeld3
import Derived.Test.YtmaolmogccknbaaDoorOpp
import Derived.Test.YtmaolmogccknbaaDoorRef1
import Derived.Test.YtmaolmogccknbaaDoorSha
import Derived.Deep.RegionWith
import Derived.Deep.CutRange
import Derived.Deep.CutBlock
namespace Go.Proofs.YtmaolmogccknbaaDoor.opn
open Go.RowKit Go.Proofs.YtmaolmogccknbaaDoor.mem Go.Proofs.YtmaolmogccknbaaDoor.sha Go.Proofs.YtmaolmogccknbaaDoor.ids

theorem conv_one (w : World) (y : UInt8) : (convert 103 9 (.slice (some ⟨w.heap.size, 0, none⟩) 1 1)).run Tryd.prog (w.alloc (.cells #[.int .u8 (B y)] 5)) = .ok (.string (oct.tx [y])) (w.alloc (.cells #[.int .u8 (B y)] 5)) := by
  have h := run_convert_bytes_back (P := Tryd.prog) (w.alloc (.cells #[.int .u8 (B y)] 5)) 103 9 5 ⟨w.heap.size, 0, none⟩ 1 [y] Tryd.underlying103 Tryd.underlying5 Tryd.underlying9 (fun j hj => by
    obtain rfl : j = 0 := by simpa using hj
    exact new_cells w 5 (bCells [y]) 0 _ rfl)
  exact h
theorem tx_snoc (l : List UInt8) (y : UInt8) : oct.tx l ++ oct.tx [y] = oct.tx (l ++ [y]) := by
  apply oct.bytes_ext
  rw [ByteArray.data_append, Array.toList_append, oct.tx_list, oct.tx_list, oct.tx_list]
theorem flat_len {L : List (List UInt8)} (h : okIds L) : L.flatten.length = L.length * 32 := by
  induction L with
  | nil => rfl
  | cons x L ih =>
    rw [List.flatten_cons, List.length_append, h x List.mem_cons_self, ih fun y hy => h y (List.mem_cons_of_mem _ hy), List.length_cons]
    omega
theorem flat_step (L : List (List UInt8)) (i : Nat) (h : i < L.length) : (L.take (i + 1)).flatten = (L.take i).flatten ++ L.getD i [] := by
  rw [List.take_succ_eq_append_getElem h, List.flatten_append, List.getD_eq_getElem?_getD, List.getElem?_eq_getElem h]
  simp

set_option maxHeartbeats 2000000 in
set_option maxRecDepth 100000 in
theorem ids_any (L : List (List UInt8)) (ad : Option Addr) (n cap : Nat) (w : World) (hL : RdV w (.slice ad n cap) L) (hmax : L.length ≤ 255) :
    Calls Tryd.prog 44 #[.slice ad n cap] w fun e w' => e = .returned (.string (oct.tx (idl L))) ∧ Below w.heap.size w w' := by
  have hn := hL.len
  subst hn
  have e1 : oct.refNum L.length 1 = (oct.tx (b1 L.length), 0) := by
    unfold oct.refNum
    rw [if_neg (by unfold oct.numErr; rw [if_neg (by decide), if_neg (by simp; omega)]; decide)]
    rfl
  have HL := Lib.hid hL
  have E1 := Lib.hid e1
  have hOK := hL.1
  have HOK := Lib.hid hOK
  clear e1 hL hOK
  go_enter Tryd.func44, Tryd.ntmps44
  go_wp2_with (go_at_call 40; refine (oct.refnum_any L.length 1 _).mono ?_; rw [E1.out]; rintro e w1 ⟨rfl, hb1⟩; have HB1 := Lib.hid hb1; clear hb1)
  go_loopw [3, 5] (fun o i wr => ∃ k : Nat, k ≤ L.length ∧ i = .int .i64 k ∧ o = .string (oct.tx (b1 L.length ++ (L.take k).flatten)) ∧ Below w.heap.size w wr) (fun _ i _ => L.length - (intOf i).toNat)
  case atStart => exact ⟨0, Nat.zero_le _, rfl, by simp, HB1.out⟩
  case round =>
    clear HB1
    obtain ⟨k, hk, rfl, rfl, hB⟩ := hrel
    have HB := Lib.hid hB
    clear hB
    have k0 : (0 : Int) ≤ (k : Int) := Int.natCast_nonneg _
    by_cases hlt : k < L.length
    · have kI : (k : Int) < (L.length : Int) := by omega
      have HFS := Lib.hid (flat_step L k hlt)
      obtain ⟨x, hx⟩ : ∃ x, x = L.getD k [] := ⟨_, rfl⟩
      have hxl : x.length = 32 := by rw [hx]; exact HOK.out.get hlt
      have hpre : (b1 L.length ++ (L.take k).flatten).length ≤ 8161 := by
        rw [List.length_append, flat_len (HOK.out.take k), List.length_take]
        simp [b1]; omega
      rw [← hx] at HFS
      obtain ⟨p, hp⟩ : ∃ p, p = b1 L.length ++ (L.take k).flatten := ⟨_, rfl⟩
      rw [← hp] at hpre ⊢
      obtain ⟨b, off, rfl, hcells⟩ : ∃ b off, ad = some ⟨b, off, none⟩ ∧ ∀ u, Below w.heap.size w u → ∀ j, j < 32 → u.cell? ⟨b, off + k * 32 + j, none⟩ = some (.int .u8 (B (x.getD j 0))) := by
        obtain ⟨h1, h2, ad', cap', hv, h3, h4, h5, h6, h7⟩ := HL.out
        cases hv
        rcases h7 with h7 | ⟨b, off, h7, h8, h9⟩
        · exfalso
          have := fl_len HOK.out
          rw [h7] at this
          simp at this
          omega
        · refine ⟨b, off, h7, fun u hu j hj => ?_⟩
          have := h9 (k * 32 + j) _ (fl_get HOK.out hlt hj)
          rw [← hx] at this
          rw [Nat.add_assoc]
          exact ((Turn.ofBelow hu).cell (Nat.not_le.2 h8)).trans this
      have HC := Lib.hid hcells
      have HP := Lib.hid hp
      clear hcells hp hx
      go_wp2_with fail
      go_loopw [3, 6] (fun o i wr => ∃ j : Nat, j ≤ 32 ∧ i = .int .i64 j ∧ o = .string (oct.tx (p ++ x.take j)) ∧ Below w.heap.size w wr) (fun _ i _ => 32 - (intOf i).toNat)
      case atStart => exact ⟨0, by decide, rfl, by simp, HB.out⟩
      case round =>
        clear HB
        obtain ⟨j, hj, rfl, rfl, hB⟩ := hrel
        have HB := Lib.hid hB
        have j0 : (0 : Int) ≤ (j : Int) := Int.natCast_nonneg _
        by_cases hjl : j < 32
        · have jI : (j : Int) < 32 := by omega
          have hc := HC.out _ hB j hjl
          have hts : x.take (j + 1) = x.take j ++ [x.getD j 0] := by
            rw [List.take_succ_eq_append_getElem (by rw [hxl]; exact hjl), List.getD_eq_getElem?_getD, List.getElem?_eq_getElem (by rw [hxl]; exact hjl)]
            rfl
          have HTS := Lib.hid hts
          obtain ⟨y, hy⟩ : ∃ y, y = x.getD j 0 := ⟨_, rfl⟩
          rw [← hy] at hc HTS
          have hcv := fun u : World => conv_one u y
          have HS := Lib.hid (tx_snoc (p ++ x.take j) y)
          have hsz : (oct.tx (p ++ x.take j)).size ≤ 10000 := by rw [oct.tx_size, List.length_append, List.length_take]; omega
          have hsy : (oct.tx [y]).size = 1 := oct.tx_size _
          obtain ⟨q, hq⟩ : ∃ q, q = oct.tx (p ++ x.take j) := ⟨_, rfl⟩
          obtain ⟨yy, hyy⟩ : ∃ q, q = oct.tx [y] := ⟨_, rfl⟩
          rw [← hq] at hsz HS ⊢
          rw [← hyy] at hsy HS hcv
          clear hts hy hB hq hyy
          go_wp2_with fail
          go_roundw
          case rel => exact ⟨j + 1, hjl, by push_cast; rfl, by rw [HS.out, HTS.out, List.append_assoc], by exact (HB.out.alloc (by have := HB.out; exact this.size) _)⟩
          case measure => simp [intOf]; omega
        · obtain rfl : j = 32 := by omega
          have e32 : x.take 32 = x := List.take_of_length_le (by rw [hxl]; exact Nat.le_refl _)
          have HE := Lib.hid e32
          clear hB hjl e32
          go_wp2_with fail
          go_roundw
          case rel => exact ⟨k + 1, hlt, by push_cast; rfl, by rw [HE.out, HP.out, HFS.out, List.append_assoc], HB.out⟩
          case measure => simp [intOf]; omega
    · obtain rfl : k = L.length := by omega
      have e : L.take L.length = L := List.take_length
      rw [e]
      clear hlt e
      have hi : ¬ (L.length : Int) < (L.length : Int) := by omega
      go_wp2_with fail
      go_ret
      exact ⟨rfl, HB.out⟩
end Go.Proofs.YtmaolmogccknbaaDoor.opn

namespace Go.Proofs.YtmaolmogccknbaaDoor.opn
open Go.RowKit Go.Proofs.YtmaolmogccknbaaDoor.mem Go.Proofs.YtmaolmogccknbaaDoor.sha

def chr : Part → UInt8
  | .N => 78
  | .K => 75
  | .V => 86
  | .R => 82
  | .S => 83
/-- the letters of what a kind has -/
def hasB (k : Int) : ByteArray := ⟨((has k).map chr).toArray⟩

theorem has_any (k : Int) (w : World) : Calls Tryd.prog 41 #[.int .i64 k] w fun e w' => e = .returned (.string (hasB k)) ∧ w = w' := by
  by_cases h1 : k = 1
  · subst h1
    go_enter Tryd.func41, Tryd.ntmps41
    go_wp2
    go_ret
    exact ⟨rfl, rfl⟩
  by_cases h2 : k = 2
  · subst h2
    go_enter Tryd.func41, Tryd.ntmps41
    go_wp2
    go_ret
    exact ⟨rfl, rfl⟩
  by_cases h3 : k = 3
  · subst h3
    go_enter Tryd.func41, Tryd.ntmps41
    go_wp2
    go_ret
    exact ⟨rfl, rfl⟩
  by_cases h4 : k = 4
  · subst h4
    go_enter Tryd.func41, Tryd.ntmps41
    go_wp2
    go_ret
    exact ⟨rfl, rfl⟩
  by_cases h5 : k = 5
  · subst h5
    go_enter Tryd.func41, Tryd.ntmps41
    go_wp2
    go_ret
    exact ⟨rfl, rfl⟩
  by_cases h6 : k = 6
  · subst h6
    go_enter Tryd.func41, Tryd.ntmps41
    go_wp2
    go_ret
    exact ⟨rfl, rfl⟩
  by_cases h7 : k = 7
  · subst h7
    go_enter Tryd.func41, Tryd.ntmps41
    go_wp2
    go_ret
    exact ⟨rfl, rfl⟩
  have e : hasB k = ⟨#[]⟩ := by unfold hasB has; simp [h1, h2, h3, h4, h5, h6, h7]
  have b1 : (k == 1) = false := by simpa using h1
  have b2 : (k == 2) = false := by simpa using h2
  have b3 : (k == 3) = false := by simpa using h3
  have b4 : (k == 4) = false := by simpa using h4
  have b5 : (k == 5) = false := by simpa using h5
  have b6 : (k == 6) = false := by simpa using h6
  have b7 : (k == 7) = false := by simpa using h7
  have HE := Lib.hid e
  clear e h1 h2 h3 h4 h5 h6 h7
  go_enter Tryd.func41, Tryd.ntmps41
  go_wp2
  go_ret
  rw [HE.out]
  exact ⟨rfl, rfl⟩

/-- to which topics a kind belongs -/
def belongs (k : Int) : Int := if k = 1 then 1 else if k = 2 then 2 else if k = 3 then 2 else if k = 4 then 3 else if k = 5 then 4 else if k = 6 then 5 else if k = 7 then 5 else 0
theorem belongs_any (k : Int) (w : World) : Calls Tryd.prog 19 #[.int .i64 k] w fun e w' => e = .returned (.int .i64 (belongs k)) ∧ w = w' := by
  by_cases h0 : 1 ≤ k ∧ k ≤ 7
  · rcases (show k = 1 ∨ k = 2 ∨ k = 3 ∨ k = 4 ∨ k = 5 ∨ k = 6 ∨ k = 7 by omega) with rfl | rfl | rfl | rfl | rfl | rfl | rfl
    all_goals
      go_enter Tryd.func19, Tryd.ntmps19
      go_wp2
      go_ret
      exact ⟨rfl, rfl⟩
  have b1 : (k == 1) = false := by simp; omega
  have b2 : (k == 2) = false := by simp; omega
  have b3 : (k == 3) = false := by simp; omega
  have b4 : (k == 4) = false := by simp; omega
  have b5 : (k == 5) = false := by simp; omega
  have b6 : (k == 6) = false := by simp; omega
  have b7 : (k == 7) = false := by simp; omega
  have e : belongs k = 0 := by
    unfold belongs
    rw [if_neg (by omega), if_neg (by omega), if_neg (by omega), if_neg (by omega), if_neg (by omega), if_neg (by omega), if_neg (by omega)]
  have HE := Lib.hid e
  clear e h0
  go_enter Tryd.func19, Tryd.ntmps19
  go_wp2
  go_ret
  rw [HE.out]
  exact ⟨rfl, rfl⟩

theorem contains_step (s : ByteArray) (c : UInt8) (k : Nat) (h : k < s.size) : (s.data.toList.take (k + 1)).contains c = ((s.data.toList.take k).contains c || c == s[k]) := by
  rw [oct.take_snoc s k h, List.contains_eq_mem, List.contains_eq_mem]
  simp [Bool.beq_eq_decide_eq]
theorem B_eq (a b : UInt8) : (B a == B b) = (b == a) := by
  by_cases h : a = b
  · subst h; simp
  · have h2 : ¬ B a = B b := fun e => h (UInt8.toNat_inj.1 (by unfold B at e; omega))
    have h3 : ¬ b = a := fun e => h e.symm
    rw [beq_eq_false_iff_ne.2 h2, beq_eq_false_iff_ne.2 h3]

theorem in_any (s : ByteArray) (c : UInt8) (w : World) (hs : s.size ≤ 549755813888000) : Calls Tryd.prog 49 #[.string s, .int .u8 (B c)] w fun e w' => e = .returned (.bool (s.data.toList.contains c)) ∧ w = w' := by
  go_enter Tryd.func49, Tryd.ntmps49
  go_wp2_with fail
  go_loopw [5] (fun i wr => ∃ k : Nat, k ≤ s.size ∧ i = .int .i64 k ∧ (s.data.toList.take k).contains c = false ∧ wr = w) (fun i _ => s.size - (intOf i).toNat)
  case atStart => exact ⟨0, Nat.zero_le _, rfl, rfl, rfl⟩
  case round =>
    obtain ⟨k, hk, rfl, hc, hwr⟩ := hrel
    have HW := Lib.hid hwr
    have k0 : (0 : Int) ≤ (k : Int) := Int.natCast_nonneg _
    by_cases hlt : k < s.size
    · have kI : (k : Int) < (s.size : Int) := by omega
      have hst := contains_step s c k hlt
      rw [hc, Bool.false_or] at hst
      have hx : (((s[k].toNat : Nat) : Int) == B c) = (c == s[k]) := B_eq _ _
      by_cases h1 : (c == s[k]) = true
      · rw [h1] at hst hx
        have HC : Hid (s.data.toList.contains c = true) := Lib.hid (by
          have hm := List.contains_iff_mem.1 hst
          exact List.contains_iff_mem.2 (List.mem_of_mem_take hm))
        clear hst hc hwr h1
        go_wp2_with fail
        go_ret
        rw [HC.out]
        exact ⟨rfl, HW.out.symm⟩
      · have h1' : (c == s[k]) = false := by simpa using h1
        rw [h1'] at hst hx
        have HC := Lib.hid hst
        clear hst hc hwr h1 h1'
        go_wp2_with fail
        go_roundw
        case rel => exact ⟨k + 1, by omega, by go_num, HC.out, HW.out⟩
        case measure => simp [intOf]; omega
    · have e : s.data.toList.take k = s.data.toList := List.take_of_length_le (by rw [Array.length_toList]; show s.size ≤ k; omega)
      rw [e] at hc
      have HC := Lib.hid hc
      clear hc hwr e
      go_wp2_with fail
      go_ret
      rw [HC.out]
      exact ⟨rfl, HW.out.symm⟩

theorem short_any (s : ByteArray) (w : World) (hs : s.size ≤ 16) : Calls Tryd.prog 42 #[.string s] w fun e w' => e = .returned (.string (oct.tx (txt s.data.toList))) ∧ Below w.heap.size w w' := by
  have e1 : oct.refNum s.size 1 = (oct.tx (b1 s.size), 0) := by
    unfold oct.refNum
    rw [if_neg (by unfold oct.numErr; rw [if_neg (by decide), if_neg (by simp; omega)]; decide)]
    rfl
  have e2 : oct.tx (txt s.data.toList) = oct.tx (b1 s.size) ++ s := by
    apply oct.bytes_ext
    have hl : s.data.toList.length = s.size := by simp
    rw [oct.tx_list, ByteArray.data_append, Array.toList_append, oct.tx_list, txt, hl]
  rw [e2]
  have hz : (oct.tx (b1 s.size)).size = 1 := oct.tx_size _
  have E1 := Lib.hid e1
  clear e1 e2
  go_enter Tryd.func42, Tryd.ntmps42
  go_wp2_with (go_at_call 40; refine (oct.refnum_any s.size 1 _).mono ?_; rw [E1.out]; rintro e w1 ⟨rfl, hb1⟩)
  go_ret
  exact ⟨rfl, hb1⟩
end Go.Proofs.YtmaolmogccknbaaDoor.opn
