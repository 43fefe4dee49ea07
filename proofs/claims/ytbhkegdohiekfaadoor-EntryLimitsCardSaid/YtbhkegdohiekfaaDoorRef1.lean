/-
  Contracts of the document's own answers for layer 1 (petrelref01): its Reader.
-/
import Derived.Test.YtbhkegdohiekfaaDoorOctp
import Derived.Outline
namespace Go.Proofs.YtbhkegdohiekfaaDoor.oct
open Go.RowKit Go.Proofs.YtbhkegdohiekfaaDoor.mem

def XBlk (w : World) (g : Nat) (s : ByteArray) (e : Int) : Prop := Blk w g 72 #[.string s, .int .i64 e]
theorem XBlk.c0 {w : World} {g : Nat} {s : ByteArray} {e : Int} (h : XBlk w g s e) : w.cell? ⟨g, 0, none⟩ = some (.string s) := Blk.cell h 0
theorem XBlk.c1 {w : World} {g : Nat} {s : ByteArray} {e : Int} (h : XBlk w g s e) : w.cell? ⟨g, 1, none⟩ = some (.int .i64 e) := Blk.cell h 1

def xTake (st : ByteArray × Int) (n : Int) : ByteArray × (ByteArray × Int) :=
  if st.2 ≠ 0 then (⟨#[]⟩, st) else if n < 0 then (⟨#[]⟩, (st.1, 1)) else if (st.1.size : Int) < n then (⟨#[]⟩, (st.1, 2)) else (st.1.extract 0 n.toNat, (st.1.extract n.toNat st.1.size, 0))

theorem xraw_err (g : Nat) (s : ByteArray) (e0 n : Int) (w : World) (h : XBlk w g s e0) (h0 : e0 ≠ 0) :
    Calls Tryd.prog 38 #[.pointer (some ⟨g, 0, none⟩), .int .i64 n] w fun e w' => e = .returned (.string ⟨#[]⟩) ∧ w = w' := by
  have c1 := h.c1
  have hd : (e0 != 0) = true := by simpa using h0
  clear h0
  go_enter Tryd.func38, Tryd.ntmps38
  go_wp2
  go_ret
  exact ⟨rfl, rfl⟩
theorem xraw_neg (g : Nat) (s : ByteArray) (n : Int) (w : World) (h : XBlk w g s 0) (h0 : n < 0) :
    Calls Tryd.prog 38 #[.pointer (some ⟨g, 0, none⟩), .int .i64 n] w fun e w' => e = .returned (.string ⟨#[]⟩) ∧ w' = w.setCell ⟨g, 1, none⟩ (.int .i64 1) := by
  have c1 := h.c1
  have f1 : w.frozen? ⟨g, 1, none⟩ = false := Blk.frozen h 1
  go_enter Tryd.func38, Tryd.ntmps38
  go_wp2
  go_ret
  exact ⟨rfl, rfl⟩
theorem xraw_short (g : Nat) (s : ByteArray) (n : Int) (w : World) (h : XBlk w g s 0) (h0 : (s.size : Int) < n) :
    Calls Tryd.prog 38 #[.pointer (some ⟨g, 0, none⟩), .int .i64 n] w fun e w' => e = .returned (.string ⟨#[]⟩) ∧ w' = w.setCell ⟨g, 1, none⟩ (.int .i64 2) := by
  have c0 := h.c0
  have c1 := h.c1
  have f1 : w.frozen? ⟨g, 1, none⟩ = false := Blk.frozen h 1
  have hn : ¬ n < 0 := by omega
  go_enter Tryd.func38, Tryd.ntmps38
  go_wp2
  go_ret
  exact ⟨rfl, rfl⟩
theorem xraw_good (g : Nat) (s : ByteArray) (n : Nat) (w : World) (h : XBlk w g s 0) (h0 : n ≤ s.size) :
    Calls Tryd.prog 38 #[.pointer (some ⟨g, 0, none⟩), .int .i64 n] w fun e w' => e = .returned (.string (s.extract 0 n)) ∧ w' = w.setCell ⟨g, 0, none⟩ (.string (s.extract n s.size)) := by
  have c0 := h.c0
  have c1 := h.c1
  have f0 : w.frozen? ⟨g, 0, none⟩ = false := Blk.frozen h 0
  have hn : ¬ (n : Int) < 0 := by omega
  have hn2 : ¬ (s.size : Int) < (n : Int) := by omega
  go_enter Tryd.func38, Tryd.ntmps38
  go_wp2
  go_ret
  exact ⟨rfl, rfl⟩

theorem xraw_any (F : Nat → Prop) (g : Nat) (s : ByteArray) (err n : Int) (w : World) (h : XBlk w g s err) (hF : F g) :
    Calls Tryd.prog 38 #[.pointer (some ⟨g, 0, none⟩), .int .i64 n] w fun e w' => e = .returned (.string (xTake (s, err) n).1) ∧ XBlk w' g (xTake (s, err) n).2.1 (xTake (s, err) n).2.2 ∧ Turn F w w' := by
  by_cases he : err = 0
  · subst he
    by_cases h0 : n < 0
    · have e2 : xTake (s, 0) n = (⟨#[]⟩, (s, 1)) := by unfold xTake; rw [if_neg (by simp), if_pos h0]
      rw [e2]
      refine (xraw_neg g s n w h h0).mono fun e w' ⟨h1, h2⟩ => ⟨h1, ?_, ?_⟩
      · subst h2; exact Blk.set_ h 1 _
      · subst h2; exact (Turn.refl F w).setCell hF _
    · by_cases h1 : (s.size : Int) < n
      · have e2 : xTake (s, 0) n = (⟨#[]⟩, (s, 2)) := by unfold xTake; rw [if_neg (by simp), if_neg h0, if_pos h1]
        rw [e2]
        refine (xraw_short g s n w h h1).mono fun e w' ⟨h1, h2⟩ => ⟨h1, ?_, ?_⟩
        · subst h2; exact Blk.set_ h 1 _
        · subst h2; exact (Turn.refl F w).setCell hF _
      · obtain ⟨k, rfl⟩ := Int.eq_ofNat_of_zero_le (by omega : 0 ≤ n)
        have e2 : xTake (s, 0) (k : Int) = (s.extract 0 k, (s.extract k s.size, 0)) := by unfold xTake; rw [if_neg (by simp), if_neg h0, if_neg h1, Int.toNat_natCast]
        rw [e2]
        refine (xraw_good g s k w h (by omega)).mono fun e w' ⟨h1, h2⟩ => ⟨h1, ?_, ?_⟩
        · subst h2; exact Blk.set_ h 0 _
        · subst h2; exact (Turn.refl F w).setCell hF _
  · have e2 : xTake (s, err) n = (⟨#[]⟩, (s, err)) := by unfold xTake; rw [if_pos he]
    rw [e2]
    refine (xraw_err g s err n w h he).mono fun e w' ⟨h1, h2⟩ => ⟨h1, ?_, ?_⟩
    · subst h2; exact h
    · subst h2; exact Turn.refl F w

theorem num_snoc (l : List UInt8) (b : UInt8) : num (l ++ [b]) = num l * 256 + b.toNat := by simp [num, List.foldl_append]
theorem num_bd (l : List UInt8) (h : l.length ≤ 4) : 0 ≤ num l ∧ num l < 4294967296 := by
  match l, h with
  | [], _ => simp [num]
  | [a], _ => have := u8_lt a; simp [num]; omega
  | [a, b], _ => have := u8_lt a; have := u8_lt b; simp [num]; omega
  | [a, b, c], _ => have := u8_lt a; have := u8_lt b; have := u8_lt c; simp [num]; omega
  | [a, b, c, d], _ => have := u8_lt a; have := u8_lt b; have := u8_lt c; have := u8_lt d; simp [num]; omega

theorem take_snoc (s : ByteArray) (k : Nat) (h : k < s.size) : s.data.toList.take (k + 1) = s.data.toList.take k ++ [s[k]] := by
  rw [List.take_succ_eq_append_getElem (by simpa using h)]; rfl

/-- the tail of the ref's Num: the bytes put together -/
def xNum (st : ByteArray × Int) (b : Int) : Int × (ByteArray × Int) :=
  if st.2 ≠ 0 then (0, st) else if sz b = false then (0, (st.1, 1)) else (num (xTake st b).1.data.toList, (xTake st b).2)
theorem xTake_size (st : ByteArray × Int) (n : Int) : (xTake st n).1.size = 0 ∨ ((xTake st n).1.size : Int) = n := by
  unfold xTake
  split
  · exact .inl rfl
  · split
    · exact .inl rfl
    · split
      · exact .inl rfl
      · right
        rw [ByteArray.size_extract]
        omega

theorem mm1 : max (0 : Int) (min 1 4) = 1 := by decide
theorem mm2 : max (0 : Int) (min 2 4) = 2 := by decide
theorem mm4 : max (0 : Int) 4 = 4 := by decide

theorem xnum_good (F : Nat → Prop) (g : Nat) (s : ByteArray) (b : Int) (w : World) (h : XBlk w g s 0) (hF : F g) (hb : b = 1 ∨ b = 2 ∨ b = 4) :
    Calls Tryd.prog 37 #[.pointer (some ⟨g, 0, none⟩), .int .i64 b] w fun e w' => e = .returned (.int .i64 (num (xTake (s, 0) b).1.data.toList)) ∧ XBlk w' g (xTake (s, 0) b).2.1 (xTake (s, 0) b).2.2 ∧ Turn F w w' := by
  have hsz := xTake_size (s, 0) b
  generalize ht : xTake (s, 0) b = T at hsz
  have HT := Lib.hid ht
  clear ht
  obtain ⟨T, T2, T3⟩ := T
  have hsz4 : T.size ≤ 4 := by simp only at hsz; omega
  have c1 := h.c1
  clear hsz
  rcases hb with rfl | rfl | rfl
  all_goals
    go_enter Tryd.func37, Tryd.ntmps37
    go_wp2_with (go_at_call 38; (first | rw [mm1] | rw [mm2] | rw [mm4]); refine (xraw_any F g s 0 _ _ h hF).mono ?_; rw [HT.out]; rintro e w1 ⟨rfl, hw1, ht1⟩)
    go_loop [6, 7] (fun n i => ∃ k : Nat, k ≤ T.size ∧ i = .int .i64 k ∧ n = .int .i64 (num (T.data.toList.take k))) (fun _ i => T.size - (intOf i).toNat)
    case atStart => exact ⟨0, Nat.zero_le _, rfl, rfl⟩
    case round =>
      obtain ⟨k, hk, rfl, rfl⟩ := hrel
      have hd := num_bd (T.data.toList.take k) (by rw [List.length_take]; omega)
      obtain ⟨hd0, hd1⟩ := hd
      by_cases hlt : k < T.size
      · have hsn := num_snoc (T.data.toList.take k) T[k]
        have hts := take_snoc T k hlt
        have HS : Hid (num (T.data.toList.take (k + 1)) = num (T.data.toList.take k) * 256 + T[k].toNat) := by rw [hts]; exact hsn
        clear hsn hts
        have u0 := u8_lt T[k]
        go_wp2
        go_round
        case rel => exact ⟨k + 1, by omega, by go_num, by rw [HS.out]; congr 1; omega⟩
        case measure => simp [intOf]; omega
      · go_wp2
        go_ret
        have e : T.data.toList.take k = T.data.toList := List.take_of_length_le (by rw [Array.length_toList]; show T.size ≤ k; omega)
        rw [e]
        exact ⟨rfl, hw1, ht1⟩

theorem xnum_err (g : Nat) (s : ByteArray) (e0 b : Int) (w : World) (h : XBlk w g s e0) (h0 : e0 ≠ 0) :
    Calls Tryd.prog 37 #[.pointer (some ⟨g, 0, none⟩), .int .i64 b] w fun e w' => e = .returned (.int .i64 0) ∧ w = w' := by
  have c1 := h.c1
  have hd : (e0 == 0) = false := by simpa using h0
  have H0 := Lib.hid h0
  clear h0
  go_enter Tryd.func37, Tryd.ntmps37
  go_wp2_with (go_at_call 38; refine (xraw_err g s e0 _ _ h H0.out).mono ?_; rintro e w1 ⟨rfl, rfl⟩)
  go_loop [6, 7] (fun n i => n = .int .i64 0 ∧ i = .int .i64 0) (fun _ _ => 0)
  case atStart => exact ⟨rfl, rfl⟩
  case round =>
    obtain ⟨rfl, rfl⟩ := hrel
    go_wp2
    go_ret
    exact ⟨rfl, rfl⟩

theorem xnum_size (F : Nat → Prop) (g : Nat) (s : ByteArray) (b : Int) (w : World) (h : XBlk w g s 0) (hF : F g) (hb : sz b = false) :
    Calls Tryd.prog 37 #[.pointer (some ⟨g, 0, none⟩), .int .i64 b] w fun e w' => e = .returned (.int .i64 0) ∧ XBlk w' g s 1 ∧ Turn F w w' := by
  have c1 := h.c1
  have f1 : w.frozen? ⟨g, 1, none⟩ = false := Blk.frozen h 1
  have h3 : b ≠ 1 ∧ b ≠ 2 ∧ b ≠ 4 := by simp [sz] at hb; omega
  obtain ⟨h1, h2, h4⟩ := h3
  have d1 : (b != 1) = true := by simpa using h1
  have d2 : (b != 2) = true := by simpa using h2
  have d4 : (b != 4) = true := by simpa using h4
  clear h1 h2 h4 hb
  have hX : XBlk (w.setCell ⟨g, 1, none⟩ (.int .i64 1)) g s 1 := Blk.set_ h 1 _
  have hT : Turn F w (w.setCell ⟨g, 1, none⟩ (.int .i64 1)) := (Turn.refl F w).setCell hF _
  go_enter Tryd.func37, Tryd.ntmps37
  go_wp2_with (go_at_call 38; refine (xraw_err g s 1 _ _ hX (by decide)).mono ?_; rintro e w1 ⟨rfl, rfl⟩)
  go_loop [6, 7] (fun n i => n = .int .i64 0 ∧ i = .int .i64 0) (fun _ _ => 0)
  case atStart => exact ⟨rfl, rfl⟩
  case round =>
    obtain ⟨rfl, rfl⟩ := hrel
    go_wp2
    go_ret
    exact ⟨rfl, hX, hT⟩

theorem xnum_any (F : Nat → Prop) (g : Nat) (s : ByteArray) (err b : Int) (w : World) (h : XBlk w g s err) (hF : F g) :
    Calls Tryd.prog 37 #[.pointer (some ⟨g, 0, none⟩), .int .i64 b] w fun e w' => e = .returned (.int .i64 (xNum (s, err) b).1) ∧ XBlk w' g (xNum (s, err) b).2.1 (xNum (s, err) b).2.2 ∧ Turn F w w' := by
  by_cases he : err = 0
  · subst he
    by_cases hs : sz b = false
    · have e2 : xNum (s, 0) b = (0, (s, 1)) := by unfold xNum; rw [if_neg (by simp), if_pos hs]
      rw [e2]
      exact xnum_size F g s b w h hF hs
    · have e2 : xNum (s, 0) b = (num (xTake (s, 0) b).1.data.toList, (xTake (s, 0) b).2) := by unfold xNum; rw [if_neg (by simp), if_neg hs]
      rw [e2]
      exact xnum_good F g s b w h hF (by simp [sz] at hs; omega)
  · have e2 : xNum (s, err) b = (0, (s, err)) := by unfold xNum; rw [if_pos he]
    rw [e2]
    refine (xnum_err g s err b w h he).mono fun e w' ⟨h1, h2⟩ => ⟨h1, ?_, ?_⟩
    · subst h2; exact h
    · subst h2; exact Turn.refl F w

end Go.Proofs.YtbhkegdohiekfaaDoor.oct
