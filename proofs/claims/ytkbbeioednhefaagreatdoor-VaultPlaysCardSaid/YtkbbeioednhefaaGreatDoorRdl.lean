/-
  octet.number: the number that up to four bytes are.
  Contracts of package octet's Reader, the rest: Num, Raw, End.
  octet's Reader by plain functions (RdL: what is left, and the first error).
-/
import Derived.Test.YtkbbeioednhefaaGreatDoorOctr
import Derived.Laws.BitsAllLaws
import Derived.Laws.BitsLemmas
import Derived.Test.YtkbbeioednhefaaGreatDoorRdx
namespace Go.Proofs.YtkbbeioednhefaaGreatDoor.oct
open Go.RowKit Go.Proofs.YtkbbeioednhefaaGreatDoor.mem

theorem ofInt_i64 (a : Nat) (ha : a < 9223372036854775808) : (BitVec.ofInt 64 (a : Int)).toNat = a := by
  rw [BitVec.ofInt_natCast, BitVec.toNat_ofNat]; exact Nat.mod_eq_of_lt (by omega)
theorem i64_or_nat (a b : Nat) (ha : a < 9223372036854775808) (hb : b < 9223372036854775808) : bits .or .i64 (a : Int) (b : Int) = ((a ||| b : Nat) : Int) := by
  have hx : a ||| b < 2 ^ 63 := Nat.or_lt_two_pow (by omega) (by omega)
  show IntKind.i64.wrap ((BitVec.ofInt 64 (a : Int) ||| BitVec.ofInt 64 (b : Int)).toNat : Int) = _
  rw [BitVec.toNat_or, ofInt_i64 a ha, ofInt_i64 b hb, IntKind.wrap_i64]
  omega
theorem or_byte (x b : Int) (h0 : 0 ≤ x) (h1 : x < 4294967296) (h2 : 0 ≤ b) (h3 : b < 256) : bits .or .i64 (x * 256) b = x * 256 + b := by
  obtain ⟨a, rfl⟩ := Int.eq_ofNat_of_zero_le h0
  obtain ⟨c, rfl⟩ := Int.eq_ofNat_of_zero_le h2
  have e : ((a : Int) * 256) = ((a * 256 : Nat) : Int) := by omega
  rw [e, i64_or_nat _ _ (by omega) (by omega)]
  have h := Nat.shiftLeft_add_eq_or_of_lt (b := c) (i := 8) (by omega) a
  rw [Nat.shiftLeft_eq] at h
  have h' : a * 256 ||| c = a * 256 + c := by rw [← h]
  rw [h']
  omega

theorem number0 (w : World) : Calls Tryz.prog 97 #[.string ⟨#[]⟩] w fun e w' => e = .returned (.int .i64 0) ∧ ∃ k, w' = w.drewN k := by
  go_enter Tryz.func97, Tryz.ntmps97
  go_wp2
  go_ret
  exact ⟨rfl, 0, rfl⟩
theorem number1 (s : ByteArray) (w : World) (h : s.size = 1) : Calls Tryz.prog 97 #[.string s] w fun e w' => e = .returned (.int .i64 (s[0].toNat)) ∧ ∃ k, w' = w.drewN k := by
  have b0 := u8_lt s[0]
  have ho := or_byte 0 s[0].toNat (by omega) (by omega) (by omega) b0
  simp only [Int.zero_mul, Int.zero_add] at ho
  go_enter Tryz.func97, Tryz.ntmps97
  go_wp2
  go_ret
  exact ⟨rfl, 0, rfl⟩
theorem at_extract (s : ByteArray) (i j : Nat) (h : 0 < (s.extract i j).size) : (s.extract i j)[0] = s[i]'(by rw [ByteArray.size_extract] at h; omega) := by
  have := ByteArray.getElem_extract (b := s) (start := i) (stop := j) (i := 0) (h := h)
  simpa using this

theorem number2 (s : ByteArray) (w : World) (h : s.size = 2) : Calls Tryz.prog 97 #[.string s] w fun e w' => e = .returned (.int .i64 ((s[0].toNat : Int) * (256 : Int) + (s[1].toNat : Int))) ∧ ∃ k, w' = w.drewN k := by
  have b0 := u8_lt s[0]
  have b1 := u8_lt s[1]
  have ho := or_byte 0 s[0].toNat (by omega) (by omega) (by omega) b0
  simp only [Int.zero_mul, Int.zero_add] at ho
  have ho1 := or_byte s[0].toNat s[1].toNat (by omega) (by omega) (by omega) b1
  have hx := at_extract s 1 2
  go_enter Tryz.func97, Tryz.ntmps97
  go_wp2
  go_ret
  exact ⟨rfl, 0, rfl⟩
theorem number4 (s : ByteArray) (w : World) (h : s.size = 4) : Calls Tryz.prog 97 #[.string s] w fun e w' => e = .returned (.int .i64 ((((s[0].toNat : Int) * (256 : Int) + (s[1].toNat : Int)) * (256 : Int) + (s[2].toNat : Int)) * (256 : Int) + (s[3].toNat : Int))) ∧ ∃ k, w' = w.drewN k := by
  have b0 := u8_lt s[0]
  have b1 := u8_lt s[1]
  have b2 := u8_lt s[2]
  have b3 := u8_lt s[3]
  have ho1 := or_byte s[0].toNat s[1].toNat (by omega) (by omega) (by omega) b1
  have ho2 := or_byte ((s[0].toNat : Int) * (256 : Int) + (s[1].toNat : Int)) s[2].toNat (by omega) (by omega) (by omega) b2
  have ho3 := or_byte (((s[0].toNat : Int) * (256 : Int) + (s[1].toNat : Int)) * (256 : Int) + (s[2].toNat : Int)) s[3].toNat (by omega) (by omega) (by omega) b3
  have hx2 := at_extract s 2 4
  have hx3 : ∀ h, ((s.extract 2 4).extract 1 2)[0]'h = s[3] := fun h => by
    rw [at_extract (s.extract 2 4) 1 2 h]
    have := ByteArray.getElem_extract (b := s) (start := 2) (stop := 4) (i := 1) (h := by rw [ByteArray.size_extract]; omega)
    simpa using this
  go_enter Tryz.func97, Tryz.ntmps97
  go_wp2
  go_quiet (fail)
  go_wp2
  go_ret
  exact ⟨rfl, _, rfl⟩

theorem list1 (s : ByteArray) (h : s.size = 1) : s.data.toList = [s[0]] := by
  obtain ⟨⟨l⟩⟩ := s
  match l, h with
  | [a], _ => rfl
theorem list2 (s : ByteArray) (h : s.size = 2) : s.data.toList = [s[0], s[1]] := by
  obtain ⟨⟨l⟩⟩ := s
  match l, h with
  | [a, b], _ => rfl
theorem list4 (s : ByteArray) (h : s.size = 4) : s.data.toList = [s[0], s[1], s[2], s[3]] := by
  obtain ⟨⟨l⟩⟩ := s
  match l, h with
  | [a, b, c, d], _ => rfl

theorem number_any (s : ByteArray) (w : World) (h : s.size = 0 ∨ s.size = 1 ∨ s.size = 2 ∨ s.size = 4) :
    Calls Tryz.prog 97 #[.string s] w fun e w' => e = .returned (.int .i64 (num s.data.toList)) ∧ ∃ k, w' = w.drewN k := by
  rcases h with h | h | h | h
  · have e : s = ⟨#[]⟩ := by
      apply ByteArray.ext
      exact Array.eq_empty_of_size_eq_zero h
    subst e
    exact number0 w
  · rw [list1 s h]
    refine (number1 s w h).mono fun e w' ⟨h1, h2⟩ => ⟨?_, h2⟩
    rw [h1]; simp only [num, List.foldl_cons, List.foldl_nil, Int.zero_mul, Int.zero_add]
  · rw [list2 s h]
    refine (number2 s w h).mono fun e w' ⟨h1, h2⟩ => ⟨?_, h2⟩
    rw [h1]; simp only [num, List.foldl_cons, List.foldl_nil, Int.zero_mul, Int.zero_add]
  · rw [list4 s h]
    refine (number4 s w h).mono fun e w' ⟨h1, h2⟩ => ⟨?_, h2⟩
    rw [h1]; simp only [num, List.foldl_cons, List.foldl_nil, Int.zero_mul, Int.zero_add]

theorem rTake_size (st : ByteArray × Int) (n : Int) : (rTake st n).1.size = 0 ∨ ((rTake st n).1.size : Int) = n := by
  unfold rTake
  split
  · exact .inl rfl
  · split
    · exact .inl rfl
    · split
      · exact .inl rfl
      · right
        rw [ByteArray.size_extract]
        omega
theorem rTake_le (st : ByteArray × Int) (n : Int) : (rTake st n).1.size ≤ st.1.size ∧ (rTake st n).2.1.size ≤ st.1.size := by
  unfold rTake
  split
  · exact ⟨Nat.zero_le _, Nat.le_refl _⟩
  · split
    · exact ⟨Nat.zero_le _, Nat.zero_le _⟩
    · split
      · exact ⟨Nat.zero_le _, Nat.zero_le _⟩
      · simp only [ByteArray.size_extract]
        omega

theorem rnum_stuck (p : Option Addr) (e0 b : Int) (w : World) (h : RFault w p e0) (h0 : e0 ≠ 0) :
    Calls Tryz.prog 86 #[.pointer p, .int .i64 b] w fun e w' => e = .returned (.int .i64 0) ∧ Below w.heap.size w w' := by
  have H0 := Lib.hid h0
  clear h0
  by_cases hs : sz b = true
  · have hb1 : Below w.heap.size w (w.alloc (.cells #[.int .i64 0] 37)) := (Below.refl _ _).alloc (Nat.le_refl _) _
    go_enter_defers Tryz.func86, Tryz.ntmps86
    go_wp2_with (first
      | (go_at_call 70; refine (isSize_any _ _).mono ?_; rintro e w' ⟨rfl, rfl⟩; rw [hs])
      | (go_at_call 98; refine (take_stuck p e0 b _ (h.block hb1) H0.out).mono ?_; rintro e w1 ⟨rfl, hb2⟩)
      | (go_at_call 97; refine (number_any ⟨#[]⟩ _ (.inl rfl)).mono ?_; rintro e w2 ⟨rfl, k, rfl⟩))
    refine leaves_cons (f := 96) (args := #[.pointer p, .pointer (some ⟨w.heap.size, 0, none⟩)]) (by simp) (by simp [go_sem]) ?_
    have hE : Blk w1 w.heap.size 37 #[.int .i64 0] := Blk.below (Blk.new w _ _) hb2 (by simp)
    have hb3 : Below w.heap.size w (w1.drewN k) := Turn.below (F := (w.heap.size ≤ ·)) ((Turn.ofBelow (hb1.trans (hb2.mono (by simp)))).drewN k) (fun _ hk => hk)
    refine (rkeep_still p _ e0 0 .returning _ (h.block hb3) ?_ (.inr rfl)).mono ?_
    · exact hE.cell 0
    rintro e u' w'' ⟨rfl, rfl, rfl⟩
    exact ⟨_, results_tmp rfl _ _ _, rfl, hb3⟩
  · have hs : sz b = false := by simpa using hs
    have hb1 : Below w.heap.size w (w.alloc (.cells #[.int .i64 1] 37)) := (Below.refl _ _).alloc (Nat.le_refl _) _
    go_enter_defers Tryz.func86, Tryz.ntmps86
    go_wp2_with (go_at_call 70; refine (isSize_any _ _).mono ?_; rintro e w' ⟨rfl, rfl⟩; rw [hs])
    refine leaves_cons (f := 96) (args := #[.pointer p, .pointer (some ⟨w.heap.size, 0, none⟩)]) (by simp) (by simp [go_sem]) ?_
    refine (rkeep_still p _ e0 1 .returning _ (h.block hb1) ?_ (.inl H0.out)).mono ?_
    · exact (Blk.new w 37 #[.int .i64 1]).cell 0
    rintro e u' w'' ⟨rfl, rfl, rfl⟩
    exact ⟨_, results_tmp rfl _ _ _, rfl, hb1⟩
end Go.Proofs.YtkbbeioednhefaaGreatDoor.oct

namespace Go.Proofs.YtkbbeioednhefaaGreatDoor.oct
open Go.RowKit Go.Proofs.YtkbbeioednhefaaGreatDoor.mem

theorem rNum_stuck (st : ByteArray × Int) (b : Int) (h : st.2 ≠ 0) : rNum st b = (0, st) := by
  unfold rNum
  split
  · first | rfl | rw [if_pos h]
  · have e : rTake st b = (⟨#[]⟩, st) := by unfold rTake; rw [if_pos h]
    rw [e]; rfl
theorem rNum_le (st : ByteArray × Int) (b : Int) : (rNum st b).2.1.size ≤ st.1.size := by
  unfold rNum
  split
  · split
    · exact Nat.le_refl _
    · exact Nat.zero_le _
  · exact (rTake_le st b).2
/-- the block that a call has laid for its error is outside what the Reader's own calls turn -/
theorem fresh_not {w : World} {g : Nat} (hg : g < w.heap.size) (o : Obj) : ¬ Only (w.alloc o) g w.heap.size := by
  rintro (h | h)
  · omega
  · simp at h; omega
theorem Only.sub {w : World} {F : Nat → Prop} {g : Nat} (hF : F g) (hn : New F w) (o : Obj) : ∀ k, Only (w.alloc o) g k → F k := by
  rintro k (h | h)
  · exact h ▸ hF
  · exact hn k (by simp at h; omega)
theorem rnum_ok (F : Nat → Prop) (g : Nat) (rest : ByteArray) (b : Int) (w : World) (h : RBlk w g rest 0) (hF : F g) (hn : New F w) :
    Calls Tryz.prog 86 #[.pointer (some ⟨g, 0, none⟩), .int .i64 b] w fun e w' => e = .returned (.int .i64 (rNum (rest, 0) b).1) ∧ RBlk w' g (rNum (rest, 0) b).2.1 (rNum (rest, 0) b).2.2 ∧ Turn F w w' := by
  by_cases hs : sz b = true
  · have hw0 : RBlk (w.alloc (.cells #[.int .i64 0] 37)) g rest 0 := Blk.alloc h _
    have hsz : (rTake (rest, 0) b).1.size = 0 ∨ (rTake (rest, 0) b).1.size = 1 ∨ (rTake (rest, 0) b).1.size = 2 ∨ (rTake (rest, 0) b).1.size = 4 := by
      have h1 := rTake_size (rest, 0) b
      have h2 : b = 1 ∨ b = 2 ∨ b = 4 := by simp [sz] at hs; omega
      omega
    have e2 : rNum (rest, 0) b = (num (rTake (rest, 0) b).1.data.toList, (rTake (rest, 0) b).2) := by unfold rNum; rw [if_neg (by simp [hs])]
    rw [e2]
    have HSZ := Lib.hid hsz
    clear hsz e2
    generalize ht : rTake (rest, 0) b = T at HSZ
    have HT := Lib.hid ht
    clear ht
    go_enter_defers Tryz.func86, Tryz.ntmps86
    go_wp2_with (first
      | (go_at_call 70; refine (isSize_any _ _).mono ?_; rintro e w' ⟨rfl, rfl⟩; rw [hs])
      | (go_at_call 98; refine (take_any (Only (w.alloc (.cells #[.int .i64 0] 37)) g) g rest 0 b _ hw0 (Only.self _ _) (Only.new _ _)).mono ?_; rw [HT.out]; rintro e w1 ⟨rfl, hw1, ht1⟩)
      | (go_at_call 97; refine (number_any T.1 _ HSZ.out).mono ?_; rintro e w2 ⟨rfl, k, rfl⟩))
    refine leaves_cons (f := 96) (args := #[.pointer (some ⟨g, 0, none⟩), .pointer (some ⟨w.heap.size, 0, none⟩)]) (by simp) (by simp [go_sem]) ?_
    have hE : Blk w1 w.heap.size 37 #[.int .i64 0] := Blk.turn (Blk.new w _ _) ht1 (fresh_not (Blk.lt h) _)
    have hw2 : RBlk (w1.drewN k) g T.2.1 T.2.2 := hw1
    refine (rkeep_still _ _ T.2.2 0 .returning _ hw2.fault ?_ (.inr rfl)).mono ?_
    · exact hE.cell 0
    rintro e u' w'' ⟨rfl, rfl, rfl⟩
    exact ⟨_, results_tmp rfl _ _ _, rfl, hw2, (((Turn.refl F w).alloc hn _).trans (ht1.mono (Only.sub hF hn _))).drewN k⟩
  · have hs : sz b = false := by simpa using hs
    have e2 : rNum (rest, 0) b = (0, (⟨#[]⟩, 1)) := by unfold rNum; rw [if_pos hs, if_neg (by simp)]
    rw [e2]
    clear e2
    go_enter_defers Tryz.func86, Tryz.ntmps86
    go_wp2_with (go_at_call 70; refine (isSize_any _ _).mono ?_; rintro e w' ⟨rfl, rfl⟩; rw [hs])
    refine leaves_cons (f := 96) (args := #[.pointer (some ⟨g, 0, none⟩), .pointer (some ⟨w.heap.size, 0, none⟩)]) (by simp) (by simp [go_sem]) ?_
    have hw1 : RBlk (w.alloc (.cells #[.int .i64 1] 37)) g rest 0 := Blk.alloc h _
    refine (rkeep_sets g ⟨w.heap.size, 0, none⟩ rest 1 .returning _ hw1 ?_ (by decide)).mono ?_
    · exact (Blk.new w 37 #[.int .i64 1]).cell 0
    rintro e u' w'' ⟨rfl, rfl, rfl⟩
    exact ⟨_, results_tmp rfl _ _ _, rfl, hw1.dropped 1, (((Turn.refl F w).alloc hn _).setCell (p := ⟨g, 1, none⟩) hF _).setCell (p := ⟨g, 2, none⟩) hF _⟩
theorem rnum_any (F : Nat → Prop) (g : Nat) (rest : ByteArray) (err b : Int) (w : World) (h : RBlk w g rest err) (hF : F g) (hn : New F w) :
    Calls Tryz.prog 86 #[.pointer (some ⟨g, 0, none⟩), .int .i64 b] w fun e w' => e = .returned (.int .i64 (rNum (rest, err) b).1) ∧ RBlk w' g (rNum (rest, err) b).2.1 (rNum (rest, err) b).2.2 ∧ Turn F w w' := by
  by_cases he : err = 0
  · subst he
    exact rnum_ok F g rest b w h hF hn
  · rw [rNum_stuck (rest, err) b he]
    exact (rnum_stuck _ err b w h.fault he).mono fun e w' ⟨h1, h2⟩ => ⟨h1, Blk.below h h2 (Blk.lt h), Turn.fresh h2 hn⟩
theorem rraw_stuck (p : Option Addr) (e0 n : Int) (w : World) (h : RFault w p e0) (h0 : e0 ≠ 0) :
    Calls Tryz.prog 104 #[.pointer p, .int .i64 n] w fun e w' => e = .returned (.string ⟨#[]⟩) ∧ Below w.heap.size w w' := by
  have H0 := Lib.hid h0
  clear h0
  go_enter Tryz.func104, Tryz.ntmps104
  go_wp2_with (first
    | (go_at_call 98; refine (take_stuck p e0 n _ h H0.out).mono ?_; rintro e w1 ⟨rfl, hb1⟩)
    | (go_at_call 105; refine (sclone_any ⟨#[]⟩ _ (by decide)).mono ?_; rintro e w2 ⟨rfl, hb2⟩))
  go_ret
  exact ⟨rfl, hb1.trans (hb2.mono hb1.size)⟩
theorem rraw_any (F : Nat → Prop) (g : Nat) (rest : ByteArray) (err n : Int) (w : World) (h : RBlk w g rest err) (hF : F g) (hn : New F w) (hr : rest.size ≤ 281474976710656) :
    Calls Tryz.prog 104 #[.pointer (some ⟨g, 0, none⟩), .int .i64 n] w fun e w' => e = .returned (.string (rTake (rest, err) n).1) ∧ RBlk w' g (rTake (rest, err) n).2.1 (rTake (rest, err) n).2.2 ∧ Turn F w w' := by
  have hle := rTake_le (rest, err) n
  generalize ht : rTake (rest, err) n = T at hle
  have HT := Lib.hid ht
  clear ht
  go_enter Tryz.func104, Tryz.ntmps104
  go_wp2_with (first
    | (go_at_call 98; refine (take_any (Only w g) g rest err n _ h (Only.self _ _) (Only.new _ _)).mono ?_; rw [HT.out]; rintro e w1 ⟨rfl, hw1, ht1⟩)
    | (go_at_call 105; refine (sclone_any T.1 _ (by omega)).mono ?_; rintro e w2 ⟨rfl, hb2⟩))
  go_ret
  have ht2 : Turn F w w1 := ht1.mono (by
    rintro k (hk | hk)
    · exact hk ▸ hF
    · exact hn k hk)
  exact ⟨rfl, Blk.below hw1 hb2 (Blk.lt hw1), ht2.trans (Turn.fresh hb2 (hn.turn ht2))⟩
end Go.Proofs.YtkbbeioednhefaaGreatDoor.oct

namespace Go.Proofs.YtkbbeioednhefaaGreatDoor.opn
open Go.RowKit Go.Proofs.YtkbbeioednhefaaGreatDoor.mem Go.Proofs.YtkbbeioednhefaaGreatDoor.sha

theorem lsr_take {x : ByteArray × Int} {st : St} (h : Sr x st) (n : Nat) : (oct.rTake x n).1 = oct.tx (rd n st).1 ∧ Sr (oct.rTake x n).2 (rd n st).2 := by
  obtain ⟨s, e⟩ := x
  obtain ⟨l, e'⟩ := st
  obtain ⟨h1, h2⟩ := h
  simp only at h1 h2
  subst h1
  unfold oct.rTake rd
  by_cases h0 : e' = 0
  · subst h0
    obtain rfl := h2 rfl
    simp only [ne_eq, not_true, if_false]
    rw [if_neg (by omega), oct.tx_size]
    by_cases hl : l.length < n
    · rw [if_pos (by omega), if_pos hl]
      exact ⟨rfl, rfl, fun h => absurd (show (2 : Int) = 0 from h) (by decide)⟩
    · rw [if_neg (by omega), if_neg hl]
      simp only [Int.toNat_natCast]
      refine ⟨?_, rfl, fun _ => ?_⟩
      · rw [oct.tx_extract, List.drop_zero]
      · rw [oct.tx_extract, List.take_of_length_le (Nat.le_refl _)]
  · simp only [ne_eq, h0, not_false_eq_true, if_true]
    exact ⟨rfl, rfl, fun h => absurd h h0⟩
theorem lsr_num {x : ByteArray × Int} {st : St} (h : Sr x st) (b : Nat) (hb : b = 1 ∨ b = 2 ∨ b = 4) : (oct.rNum x b).1 = (rdN b st).1 ∧ Sr (oct.rNum x b).2 (rdN b st).2 := by
  have hs := lsr_take h b
  unfold oct.rNum rdN
  rw [if_neg (by rcases hb with rfl | rfl | rfl <;> decide)]
  refine ⟨?_, hs.2⟩
  rw [hs.1, oct.tx_list]
  rfl
/-- a Reader of octet in block g, by what is left and the first error -/
def RdL (w : World) (g : Nat) (st : St) : Prop := ∃ s e, oct.RBlk w g s e ∧ Sr (s, e) st ∧ s.size ≤ 281474976710656
theorem RdL.turn {F : Nat → Prop} {w w' : World} {g : Nat} {st : St} (h : RdL w g st) (ht : Turn F w w') (hg : ¬ F g) : RdL w' g st := by
  obtain ⟨s, e, hx, hs⟩ := h
  exact ⟨s, e, Blk.turn hx ht hg, hs⟩
theorem RdL.lt {w : World} {g : Nat} {st : St} (h : RdL w g st) : g < w.heap.size := by
  obtain ⟨s, e, hx, hs⟩ := h
  exact Blk.lt hx
theorem lnum_s (F : Nat → Prop) (g : Nat) (st : St) (b : Nat) (hb : b = 1 ∨ b = 2 ∨ b = 4) (w : World) (h : RdL w g st) (hF : F g) (hn : New F w) :
    Calls Tryz.prog 86 #[.pointer (some ⟨g, 0, none⟩), .int .i64 (b : Int)] w fun e w' => e = .returned (.int .i64 (rdN b st).1) ∧ RdL w' g (rdN b st).2 ∧ Turn F w w' := by
  obtain ⟨s, e, hx, hs, hz⟩ := h
  refine (oct.rnum_any F g s e b w hx hF hn).mono ?_
  rintro e2 w2 ⟨rfl, h2, ht⟩
  have := lsr_num hs b hb
  exact ⟨by rw [this.1], ⟨_, _, h2, this.2, Nat.le_trans (oct.rNum_le (s, e) b) hz⟩, ht⟩
theorem lnum1_s (F : Nat → Prop) (g : Nat) (st : St) (w : World) (h : RdL w g st) (hF : F g) (hn : New F w) :
    Calls Tryz.prog 86 #[.pointer (some ⟨g, 0, none⟩), .int .i64 1] w fun e w' => e = .returned (.int .i64 (rdN 1 st).1) ∧ RdL w' g (rdN 1 st).2 ∧ Turn F w w' := lnum_s F g st 1 (.inl rfl) w h hF hn
theorem lnum4_s (F : Nat → Prop) (g : Nat) (st : St) (w : World) (h : RdL w g st) (hF : F g) (hn : New F w) :
    Calls Tryz.prog 86 #[.pointer (some ⟨g, 0, none⟩), .int .i64 4] w fun e w' => e = .returned (.int .i64 (rdN 4 st).1) ∧ RdL w' g (rdN 4 st).2 ∧ Turn F w w' := lnum_s F g st 4 (.inr (.inr rfl)) w h hF hn
theorem lraw_s (F : Nat → Prop) (g : Nat) (st : St) (n : Int) (hn0 : 0 ≤ n) (w : World) (h : RdL w g st) (hF : F g) (hn : New F w) :
    Calls Tryz.prog 104 #[.pointer (some ⟨g, 0, none⟩), .int .i64 n] w fun e w' => e = .returned (.string (oct.tx (rd n.toNat st).1)) ∧ RdL w' g (rd n.toNat st).2 ∧ Turn F w w' := by
  obtain ⟨s, e, hx, hs, hz⟩ := h
  refine (oct.rraw_any F g s e n w hx hF hn hz).mono ?_
  rintro e2 w2 ⟨rfl, h2, ht⟩
  have := lsr_take hs n.toNat
  rw [Int.toNat_of_nonneg hn0] at this
  exact ⟨by rw [this.1], ⟨_, _, h2, this.2, Nat.le_trans (oct.rTake_le (s, e) n).2 hz⟩, ht⟩
theorem lerr_s (g : Nat) (st : St) (w : World) (h : RdL w g st) :
    Calls Tryz.prog 99 #[.pointer (some ⟨g, 0, none⟩)] w fun e w' => e = .returned (.int .i64 st.2) ∧ w = w' := by
  obtain ⟨s, e, hx, hs, -⟩ := h
  rw [hs.1]
  exact oct.err_ok g s e w hx
theorem lnum2_s (F : Nat → Prop) (g : Nat) (st : St) (w : World) (h : RdL w g st) (hF : F g) (hn : New F w) :
    Calls Tryz.prog 86 #[.pointer (some ⟨g, 0, none⟩), .int .i64 2] w fun e w' => e = .returned (.int .i64 (rdN 2 st).1) ∧ RdL w' g (rdN 2 st).2 ∧ Turn F w w' := lnum_s F g st 2 (.inr (.inl rfl)) w h hF hn
end Go.Proofs.YtkbbeioednhefaaGreatDoor.opn
