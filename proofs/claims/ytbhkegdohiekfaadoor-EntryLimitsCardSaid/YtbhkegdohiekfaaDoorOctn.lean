/-
  octet.number: the number that up to four bytes are.
-/
import Derived.Test.YtbhkegdohiekfaaDoorOctr
import Derived.Laws.BitsAllLaws
import Derived.Laws.BitsLemmas
namespace Go.Proofs.YtbhkegdohiekfaaDoor.oct
open Go.RowKit Go.Proofs.YtbhkegdohiekfaaDoor.mem

theorem ofInt_i64 (a : Nat) (ha : a < 9223372036854775808) : (BitVec.ofInt 64 (a : Int)).toNat = a := by
  rw [BitVec.ofInt_natCast, BitVec.toNat_ofNat]; exact Nat.mod_eq_of_lt (by omega)
theorem i64_or_nat (a b : Nat) (ha : a < 9223372036854775808) (hb : b < 9223372036854775808) : bits .or .i64 (a : Int) (b : Int) = ((a ||| b : Nat) : Int) := by
  have hx : a ||| b < 2 ^ 63 := Nat.or_lt_two_pow (by omega) (by omega)
  show IntKind.i64.wrap ((BitVec.ofInt 64 (a : Int) ||| BitVec.ofInt 64 (b : Int)).toNat : Int) = _
  rw [BitVec.toNat_or, ofInt_i64 a ha, ofInt_i64 b hb, IntKind.wrap_i64]
  omega
theorem or_byte (x b : Int) (h0 : 0 ≤ x) (h1 : x < 4294967296) (h2 : 0 ≤ b) (h3 : b < 256) : bits .or .i64 (x * 256) b = x * 256 + b := by
  obtain ⟨a, rfl⟩ := Int.eq_ofNat_of_zero_le h0
  obtain ⟨c, rfl⟩ := Int.eq_ofNat_of_zero_le h2
  have e : ((a : Int) * 256) = ((a * 256 : Nat) : Int) := by omega
  rw [e, i64_or_nat _ _ (by omega) (by omega)]
  have h := Nat.shiftLeft_add_eq_or_of_lt (b := c) (i := 8) (by omega) a
  rw [Nat.shiftLeft_eq] at h
  have h' : a * 256 ||| c = a * 256 + c := by rw [← h]
  rw [h']
  omega

theorem number0 (w : World) : Calls Tryd.prog 48 #[.string ⟨#[]⟩] w fun e w' => e = .returned (.int .i64 0) ∧ ∃ k, w' = w.drewN k := by
  go_enter Tryd.func48, Tryd.ntmps48
  go_wp2
  go_ret
  exact ⟨rfl, 0, rfl⟩
theorem number1 (s : ByteArray) (w : World) (h : s.size = 1) : Calls Tryd.prog 48 #[.string s] w fun e w' => e = .returned (.int .i64 (s[0].toNat)) ∧ ∃ k, w' = w.drewN k := by
  have b0 := u8_lt s[0]
  have ho := or_byte 0 s[0].toNat (by omega) (by omega) (by omega) b0
  simp only [Int.zero_mul, Int.zero_add] at ho
  go_enter Tryd.func48, Tryd.ntmps48
  go_wp2
  go_ret
  exact ⟨rfl, 0, rfl⟩
theorem at_extract (s : ByteArray) (i j : Nat) (h : 0 < (s.extract i j).size) : (s.extract i j)[0] = s[i]'(by rw [ByteArray.size_extract] at h; omega) := by
  have := ByteArray.getElem_extract (b := s) (start := i) (stop := j) (i := 0) (h := h)
  simpa using this

theorem number2 (s : ByteArray) (w : World) (h : s.size = 2) : Calls Tryd.prog 48 #[.string s] w fun e w' => e = .returned (.int .i64 ((s[0].toNat : Int) * (256 : Int) + (s[1].toNat : Int))) ∧ ∃ k, w' = w.drewN k := by
  have b0 := u8_lt s[0]
  have b1 := u8_lt s[1]
  have ho := or_byte 0 s[0].toNat (by omega) (by omega) (by omega) b0
  simp only [Int.zero_mul, Int.zero_add] at ho
  have ho1 := or_byte s[0].toNat s[1].toNat (by omega) (by omega) (by omega) b1
  have hx := at_extract s 1 2
  go_enter Tryd.func48, Tryd.ntmps48
  go_wp2
  go_ret
  exact ⟨rfl, 0, rfl⟩
theorem number4 (s : ByteArray) (w : World) (h : s.size = 4) : Calls Tryd.prog 48 #[.string s] w fun e w' => e = .returned (.int .i64 ((((s[0].toNat : Int) * (256 : Int) + (s[1].toNat : Int)) * (256 : Int) + (s[2].toNat : Int)) * (256 : Int) + (s[3].toNat : Int))) ∧ ∃ k, w' = w.drewN k := by
  have b0 := u8_lt s[0]
  have b1 := u8_lt s[1]
  have b2 := u8_lt s[2]
  have b3 := u8_lt s[3]
  have ho1 := or_byte s[0].toNat s[1].toNat (by omega) (by omega) (by omega) b1
  have ho2 := or_byte ((s[0].toNat : Int) * (256 : Int) + (s[1].toNat : Int)) s[2].toNat (by omega) (by omega) (by omega) b2
  have ho3 := or_byte (((s[0].toNat : Int) * (256 : Int) + (s[1].toNat : Int)) * (256 : Int) + (s[2].toNat : Int)) s[3].toNat (by omega) (by omega) (by omega) b3
  have hx2 := at_extract s 2 4
  have hx3 : ∀ h, ((s.extract 2 4).extract 1 2)[0]'h = s[3] := fun h => by
    rw [at_extract (s.extract 2 4) 1 2 h]
    have := ByteArray.getElem_extract (b := s) (start := 2) (stop := 4) (i := 1) (h := by rw [ByteArray.size_extract]; omega)
    simpa using this
  go_enter Tryd.func48, Tryd.ntmps48
  go_wp2
  go_quiet (fail)
  go_wp2
  go_ret
  exact ⟨rfl, _, rfl⟩

theorem list1 (s : ByteArray) (h : s.size = 1) : s.data.toList = [s[0]] := by
  obtain ⟨⟨l⟩⟩ := s
  match l, h with
  | [a], _ => rfl
theorem list2 (s : ByteArray) (h : s.size = 2) : s.data.toList = [s[0], s[1]] := by
  obtain ⟨⟨l⟩⟩ := s
  match l, h with
  | [a, b], _ => rfl
theorem list4 (s : ByteArray) (h : s.size = 4) : s.data.toList = [s[0], s[1], s[2], s[3]] := by
  obtain ⟨⟨l⟩⟩ := s
  match l, h with
  | [a, b, c, d], _ => rfl

theorem number_any (s : ByteArray) (w : World) (h : s.size = 0 ∨ s.size = 1 ∨ s.size = 2 ∨ s.size = 4) :
    Calls Tryd.prog 48 #[.string s] w fun e w' => e = .returned (.int .i64 (num s.data.toList)) ∧ ∃ k, w' = w.drewN k := by
  rcases h with h | h | h | h
  · have e : s = ⟨#[]⟩ := by
      apply ByteArray.ext
      exact Array.eq_empty_of_size_eq_zero h
    subst e
    exact number0 w
  · rw [list1 s h]
    refine (number1 s w h).mono fun e w' ⟨h1, h2⟩ => ⟨?_, h2⟩
    rw [h1]; simp only [num, List.foldl_cons, List.foldl_nil, Int.zero_mul, Int.zero_add]
  · rw [list2 s h]
    refine (number2 s w h).mono fun e w' ⟨h1, h2⟩ => ⟨?_, h2⟩
    rw [h1]; simp only [num, List.foldl_cons, List.foldl_nil, Int.zero_mul, Int.zero_add]
  · rw [list4 s h]
    refine (number4 s w h).mono fun e w' ⟨h1, h2⟩ => ⟨?_, h2⟩
    rw [h1]; simp only [num, List.foldl_cons, List.foldl_nil, Int.zero_mul, Int.zero_add]

theorem rTake_size (st : ByteArray × Int) (n : Int) : (rTake st n).1.size = 0 ∨ ((rTake st n).1.size : Int) = n := by
  unfold rTake
  split
  · exact .inl rfl
  · split
    · exact .inl rfl
    · split
      · exact .inl rfl
      · right
        rw [ByteArray.size_extract]
        omega
theorem rTake_le (st : ByteArray × Int) (n : Int) : (rTake st n).1.size ≤ st.1.size ∧ (rTake st n).2.1.size ≤ st.1.size := by
  unfold rTake
  split
  · exact ⟨Nat.zero_le _, Nat.le_refl _⟩
  · split
    · exact ⟨Nat.zero_le _, Nat.zero_le _⟩
    · split
      · exact ⟨Nat.zero_le _, Nat.zero_le _⟩
      · simp only [ByteArray.size_extract]
        omega

theorem rnum_stuck (p : Option Addr) (e0 b : Int) (w : World) (h : RFault w p e0) (h0 : e0 ≠ 0) :
    Calls Tryd.prog 33 #[.pointer p, .int .i64 b] w fun e w' => e = .returned (.int .i64 0) ∧ Below w.heap.size w w' := by
  have H0 := Lib.hid h0
  clear h0
  by_cases hs : sz b = true
  · have hb1 : Below w.heap.size w (w.alloc (.cells #[.int .i64 0] 27)) := (Below.refl _ _).alloc (Nat.le_refl _) _
    go_enter_defers Tryd.func33, Tryd.ntmps33
    go_wp2_with (first
      | (go_at_call 43; refine (isSize_any _ _).mono ?_; rintro e w' ⟨rfl, rfl⟩; rw [hs])
      | (go_at_call 49; refine (take_stuck p e0 b _ (h.block hb1) H0.out).mono ?_; rintro e w1 ⟨rfl, hb2⟩)
      | (go_at_call 48; refine (number_any ⟨#[]⟩ _ (.inl rfl)).mono ?_; rintro e w2 ⟨rfl, k, rfl⟩))
    refine leaves_cons (f := 47) (args := #[.pointer p, .pointer (some ⟨w.heap.size, 0, none⟩)]) (by simp) (by simp [go_sem]) ?_
    have hE : Blk w1 w.heap.size 27 #[.int .i64 0] := Blk.below (Blk.new w _ _) hb2 (by simp)
    have hb3 : Below w.heap.size w (w1.drewN k) := Turn.below (F := (w.heap.size ≤ ·)) ((Turn.ofBelow (hb1.trans (hb2.mono (by simp)))).drewN k) (fun _ hk => hk)
    refine (rkeep_still p _ e0 0 .returning _ (h.block hb3) ?_ (.inr rfl)).mono ?_
    · exact hE.cell 0
    rintro e u' w'' ⟨rfl, rfl, rfl⟩
    exact ⟨_, results_tmp rfl _ _ _, rfl, hb3⟩
  · have hs : sz b = false := by simpa using hs
    have hb1 : Below w.heap.size w (w.alloc (.cells #[.int .i64 1] 27)) := (Below.refl _ _).alloc (Nat.le_refl _) _
    go_enter_defers Tryd.func33, Tryd.ntmps33
    go_wp2_with (go_at_call 43; refine (isSize_any _ _).mono ?_; rintro e w' ⟨rfl, rfl⟩; rw [hs])
    refine leaves_cons (f := 47) (args := #[.pointer p, .pointer (some ⟨w.heap.size, 0, none⟩)]) (by simp) (by simp [go_sem]) ?_
    refine (rkeep_still p _ e0 1 .returning _ (h.block hb1) ?_ (.inl H0.out)).mono ?_
    · exact (Blk.new w 27 #[.int .i64 1]).cell 0
    rintro e u' w'' ⟨rfl, rfl, rfl⟩
    exact ⟨_, results_tmp rfl _ _ _, rfl, hb1⟩
end Go.Proofs.YtbhkegdohiekfaaDoor.oct
