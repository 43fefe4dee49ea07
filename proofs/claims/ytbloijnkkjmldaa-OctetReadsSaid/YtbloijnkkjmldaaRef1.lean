/-
  Contracts of the document's own answers for layer 1 (petrelref01): its Reader.
-/
import Derived.Test.YtbloijnkkjmldaaOcts
import Derived.Outline
namespace Go.Proofs.Ytbloijnkkjmldaa.oct
open Go.RowKit

def XBlk (w : World) (g : Nat) (s : ByteArray) (e : Int) : Prop := Blk w g 41 #[.string s, .int .i64 e]
theorem XBlk.c0 {w : World} {g : Nat} {s : ByteArray} {e : Int} (h : XBlk w g s e) : w.cell? ⟨g, 0, none⟩ = some (.string s) := Blk.cell h 0
theorem XBlk.c1 {w : World} {g : Nat} {s : ByteArray} {e : Int} (h : XBlk w g s e) : w.cell? ⟨g, 1, none⟩ = some (.int .i64 e) := Blk.cell h 1

def xTake (st : ByteArray × Int) (n : Int) : ByteArray × (ByteArray × Int) :=
  if st.2 ≠ 0 then (⟨#[]⟩, st) else if n < 0 then (⟨#[]⟩, (st.1, 1)) else if (st.1.size : Int) < n then (⟨#[]⟩, (st.1, 2)) else (st.1.extract 0 n.toNat, (st.1.extract n.toNat st.1.size, 0))

theorem xraw_err (g : Nat) (s : ByteArray) (e0 n : Int) (w : World) (h : XBlk w g s e0) (h0 : e0 ≠ 0) :
    Calls Try.prog 22 #[.pointer (some ⟨g, 0, none⟩), .int .i64 n] w fun e w' => e = .returned (.string ⟨#[]⟩) ∧ w = w' := by
  have c1 := h.c1
  have hd : (e0 != 0) = true := by simpa using h0
  clear h0
  go_enter Try.func22, Try.ntmps22
  go_wp2
  go_ret
  exact ⟨rfl, rfl⟩
theorem xraw_neg (g : Nat) (s : ByteArray) (n : Int) (w : World) (h : XBlk w g s 0) (h0 : n < 0) :
    Calls Try.prog 22 #[.pointer (some ⟨g, 0, none⟩), .int .i64 n] w fun e w' => e = .returned (.string ⟨#[]⟩) ∧ w' = w.setCell ⟨g, 1, none⟩ (.int .i64 1) := by
  have c1 := h.c1
  have f1 : w.frozen? ⟨g, 1, none⟩ = false := Blk.frozen h 1
  go_enter Try.func22, Try.ntmps22
  go_wp2
  go_ret
  exact ⟨rfl, rfl⟩
theorem xraw_short (g : Nat) (s : ByteArray) (n : Int) (w : World) (h : XBlk w g s 0) (h0 : (s.size : Int) < n) :
    Calls Try.prog 22 #[.pointer (some ⟨g, 0, none⟩), .int .i64 n] w fun e w' => e = .returned (.string ⟨#[]⟩) ∧ w' = w.setCell ⟨g, 1, none⟩ (.int .i64 2) := by
  have c0 := h.c0
  have c1 := h.c1
  have f1 : w.frozen? ⟨g, 1, none⟩ = false := Blk.frozen h 1
  have hn : ¬ n < 0 := by omega
  go_enter Try.func22, Try.ntmps22
  go_wp2
  go_ret
  exact ⟨rfl, rfl⟩
theorem xraw_good (g : Nat) (s : ByteArray) (n : Nat) (w : World) (h : XBlk w g s 0) (h0 : n ≤ s.size) :
    Calls Try.prog 22 #[.pointer (some ⟨g, 0, none⟩), .int .i64 n] w fun e w' => e = .returned (.string (s.extract 0 n)) ∧ w' = w.setCell ⟨g, 0, none⟩ (.string (s.extract n s.size)) := by
  have c0 := h.c0
  have c1 := h.c1
  have f0 : w.frozen? ⟨g, 0, none⟩ = false := Blk.frozen h 0
  have hn : ¬ (n : Int) < 0 := by omega
  have hn2 : ¬ (s.size : Int) < (n : Int) := by omega
  go_enter Try.func22, Try.ntmps22
  go_wp2
  go_ret
  exact ⟨rfl, rfl⟩

theorem xraw_any (F : Nat → Prop) (g : Nat) (s : ByteArray) (err n : Int) (w : World) (h : XBlk w g s err) (hF : F g) :
    Calls Try.prog 22 #[.pointer (some ⟨g, 0, none⟩), .int .i64 n] w fun e w' => e = .returned (.string (xTake (s, err) n).1) ∧ XBlk w' g (xTake (s, err) n).2.1 (xTake (s, err) n).2.2 ∧ Turn F w w' := by
  by_cases he : err = 0
  · subst he
    by_cases h0 : n < 0
    · have e2 : xTake (s, 0) n = (⟨#[]⟩, (s, 1)) := by unfold xTake; rw [if_neg (by simp), if_pos h0]
      rw [e2]
      refine (xraw_neg g s n w h h0).mono fun e w' ⟨h1, h2⟩ => ⟨h1, ?_, ?_⟩
      · subst h2; exact Blk.set_ h 1 _
      · subst h2; exact (Turn.refl F w).setCell hF _
    · by_cases h1 : (s.size : Int) < n
      · have e2 : xTake (s, 0) n = (⟨#[]⟩, (s, 2)) := by unfold xTake; rw [if_neg (by simp), if_neg h0, if_pos h1]
        rw [e2]
        refine (xraw_short g s n w h h1).mono fun e w' ⟨h1, h2⟩ => ⟨h1, ?_, ?_⟩
        · subst h2; exact Blk.set_ h 1 _
        · subst h2; exact (Turn.refl F w).setCell hF _
      · obtain ⟨k, rfl⟩ := Int.eq_ofNat_of_zero_le (by omega : 0 ≤ n)
        have e2 : xTake (s, 0) (k : Int) = (s.extract 0 k, (s.extract k s.size, 0)) := by unfold xTake; rw [if_neg (by simp), if_neg h0, if_neg h1, Int.toNat_natCast]
        rw [e2]
        refine (xraw_good g s k w h (by omega)).mono fun e w' ⟨h1, h2⟩ => ⟨h1, ?_, ?_⟩
        · subst h2; exact Blk.set_ h 0 _
        · subst h2; exact (Turn.refl F w).setCell hF _
  · have e2 : xTake (s, err) n = (⟨#[]⟩, (s, err)) := by unfold xTake; rw [if_pos he]
    rw [e2]
    refine (xraw_err g s err n w h he).mono fun e w' ⟨h1, h2⟩ => ⟨h1, ?_, ?_⟩
    · subst h2; exact h
    · subst h2; exact Turn.refl F w

theorem num_snoc (l : List UInt8) (b : UInt8) : num (l ++ [b]) = num l * 256 + b.toNat := by simp [num, List.foldl_append]
theorem num_bd (l : List UInt8) (h : l.length ≤ 4) : 0 ≤ num l ∧ num l < 4294967296 := by
  match l, h with
  | [], _ => simp [num]
  | [a], _ => have := u8_lt a; simp [num]; omega
  | [a, b], _ => have := u8_lt a; have := u8_lt b; simp [num]; omega
  | [a, b, c], _ => have := u8_lt a; have := u8_lt b; have := u8_lt c; simp [num]; omega
  | [a, b, c, d], _ => have := u8_lt a; have := u8_lt b; have := u8_lt c; have := u8_lt d; simp [num]; omega

theorem take_snoc (s : ByteArray) (k : Nat) (h : k < s.size) : s.data.toList.take (k + 1) = s.data.toList.take k ++ [s[k]] := by
  rw [List.take_succ_eq_append_getElem (by simpa using h)]; rfl

/-- the tail of the ref's Num: the bytes put together -/
def xNum (st : ByteArray × Int) (b : Int) : Int × (ByteArray × Int) :=
  if st.2 ≠ 0 then (0, st) else if sz b = false then (0, (st.1, 1)) else (num (xTake st b).1.data.toList, (xTake st b).2)
def xText (st : ByteArray × Int) (most : Int) : ByteArray × (ByteArray × Int) :=
  if (xNum st 2).2.2 ≠ 0 then (⟨#[]⟩, (xNum st 2).2) else if most < (xNum st 2).1 then (⟨#[]⟩, ((xNum st 2).2.1, 3)) else xTake (xNum st 2).2 (xNum st 2).1

theorem xTake_size (st : ByteArray × Int) (n : Int) : (xTake st n).1.size = 0 ∨ ((xTake st n).1.size : Int) = n := by
  unfold xTake
  split
  · exact .inl rfl
  · split
    · exact .inl rfl
    · split
      · exact .inl rfl
      · right
        rw [ByteArray.size_extract]
        omega

theorem mm1 : max (0 : Int) (min 1 4) = 1 := by decide
theorem mm2 : max (0 : Int) (min 2 4) = 2 := by decide
theorem mm4 : max (0 : Int) 4 = 4 := by decide

theorem xnum_good (F : Nat → Prop) (g : Nat) (s : ByteArray) (b : Int) (w : World) (h : XBlk w g s 0) (hF : F g) (hb : b = 1 ∨ b = 2 ∨ b = 4) :
    Calls Try.prog 18 #[.pointer (some ⟨g, 0, none⟩), .int .i64 b] w fun e w' => e = .returned (.int .i64 (num (xTake (s, 0) b).1.data.toList)) ∧ XBlk w' g (xTake (s, 0) b).2.1 (xTake (s, 0) b).2.2 ∧ Turn F w w' := by
  have hsz := xTake_size (s, 0) b
  generalize ht : xTake (s, 0) b = T at hsz
  have HT := Lib.hid ht
  clear ht
  obtain ⟨T, T2, T3⟩ := T
  have hsz4 : T.size ≤ 4 := by simp only at hsz; omega
  have c1 := h.c1
  clear hsz
  rcases hb with rfl | rfl | rfl
  all_goals
    go_enter Try.func18, Try.ntmps18
    go_wp2_with (go_at_call 22; (first | rw [mm1] | rw [mm2] | rw [mm4]); refine (xraw_any F g s 0 _ _ h hF).mono ?_; rw [HT.out]; rintro e w1 ⟨rfl, hw1, ht1⟩)
    go_loop [6, 7] (fun n i => ∃ k : Nat, k ≤ T.size ∧ i = .int .i64 k ∧ n = .int .i64 (num (T.data.toList.take k))) (fun _ i => T.size - (intOf i).toNat)
    case atStart => exact ⟨0, Nat.zero_le _, rfl, rfl⟩
    case round =>
      obtain ⟨k, hk, rfl, rfl⟩ := hrel
      have hd := num_bd (T.data.toList.take k) (by rw [List.length_take]; omega)
      obtain ⟨hd0, hd1⟩ := hd
      by_cases hlt : k < T.size
      · have hsn := num_snoc (T.data.toList.take k) T[k]
        have hts := take_snoc T k hlt
        have HS : Hid (num (T.data.toList.take (k + 1)) = num (T.data.toList.take k) * 256 + T[k].toNat) := by rw [hts]; exact hsn
        clear hsn hts
        have u0 := u8_lt T[k]
        go_wp2
        go_round
        case rel => exact ⟨k + 1, by omega, by go_num, by rw [HS.out]; congr 1; omega⟩
        case measure => simp [intOf]; omega
      · go_wp2
        go_ret
        have e : T.data.toList.take k = T.data.toList := List.take_of_length_le (by rw [Array.length_toList]; show T.size ≤ k; omega)
        rw [e]
        exact ⟨rfl, hw1, ht1⟩

theorem xnum_err (g : Nat) (s : ByteArray) (e0 b : Int) (w : World) (h : XBlk w g s e0) (h0 : e0 ≠ 0) :
    Calls Try.prog 18 #[.pointer (some ⟨g, 0, none⟩), .int .i64 b] w fun e w' => e = .returned (.int .i64 0) ∧ w = w' := by
  have c1 := h.c1
  have hd : (e0 == 0) = false := by simpa using h0
  have H0 := Lib.hid h0
  clear h0
  go_enter Try.func18, Try.ntmps18
  go_wp2_with (go_at_call 22; refine (xraw_err g s e0 _ _ h H0.out).mono ?_; rintro e w1 ⟨rfl, rfl⟩)
  go_loop [6, 7] (fun n i => n = .int .i64 0 ∧ i = .int .i64 0) (fun _ _ => 0)
  case atStart => exact ⟨rfl, rfl⟩
  case round =>
    obtain ⟨rfl, rfl⟩ := hrel
    go_wp2
    go_ret
    exact ⟨rfl, rfl⟩

theorem xnum_size (F : Nat → Prop) (g : Nat) (s : ByteArray) (b : Int) (w : World) (h : XBlk w g s 0) (hF : F g) (hb : sz b = false) :
    Calls Try.prog 18 #[.pointer (some ⟨g, 0, none⟩), .int .i64 b] w fun e w' => e = .returned (.int .i64 0) ∧ XBlk w' g s 1 ∧ Turn F w w' := by
  have c1 := h.c1
  have f1 : w.frozen? ⟨g, 1, none⟩ = false := Blk.frozen h 1
  have h3 : b ≠ 1 ∧ b ≠ 2 ∧ b ≠ 4 := by simp [sz] at hb; omega
  obtain ⟨h1, h2, h4⟩ := h3
  have d1 : (b != 1) = true := by simpa using h1
  have d2 : (b != 2) = true := by simpa using h2
  have d4 : (b != 4) = true := by simpa using h4
  clear h1 h2 h4 hb
  have hX : XBlk (w.setCell ⟨g, 1, none⟩ (.int .i64 1)) g s 1 := Blk.set_ h 1 _
  have hT : Turn F w (w.setCell ⟨g, 1, none⟩ (.int .i64 1)) := (Turn.refl F w).setCell hF _
  go_enter Try.func18, Try.ntmps18
  go_wp2_with (go_at_call 22; refine (xraw_err g s 1 _ _ hX (by decide)).mono ?_; rintro e w1 ⟨rfl, rfl⟩)
  go_loop [6, 7] (fun n i => n = .int .i64 0 ∧ i = .int .i64 0) (fun _ _ => 0)
  case atStart => exact ⟨rfl, rfl⟩
  case round =>
    obtain ⟨rfl, rfl⟩ := hrel
    go_wp2
    go_ret
    exact ⟨rfl, hX, hT⟩

theorem xnum_any (F : Nat → Prop) (g : Nat) (s : ByteArray) (err b : Int) (w : World) (h : XBlk w g s err) (hF : F g) :
    Calls Try.prog 18 #[.pointer (some ⟨g, 0, none⟩), .int .i64 b] w fun e w' => e = .returned (.int .i64 (xNum (s, err) b).1) ∧ XBlk w' g (xNum (s, err) b).2.1 (xNum (s, err) b).2.2 ∧ Turn F w w' := by
  by_cases he : err = 0
  · subst he
    by_cases hs : sz b = false
    · have e2 : xNum (s, 0) b = (0, (s, 1)) := by unfold xNum; rw [if_neg (by simp), if_pos hs]
      rw [e2]
      exact xnum_size F g s b w h hF hs
    · have e2 : xNum (s, 0) b = (num (xTake (s, 0) b).1.data.toList, (xTake (s, 0) b).2) := by unfold xNum; rw [if_neg (by simp), if_neg hs]
      rw [e2]
      exact xnum_good F g s b w h hF (by simp [sz] at hs; omega)
  · have e2 : xNum (s, err) b = (0, (s, err)) := by unfold xNum; rw [if_pos he]
    rw [e2]
    refine (xnum_err g s err b w h he).mono fun e w' ⟨h1, h2⟩ => ⟨h1, ?_, ?_⟩
    · subst h2; exact h
    · subst h2; exact Turn.refl F w

theorem xtext_any (F : Nat → Prop) (g : Nat) (s : ByteArray) (err n : Int) (w : World) (h : XBlk w g s err) (hF : F g) :
    Calls Try.prog 20 #[.pointer (some ⟨g, 0, none⟩), .int .i64 n] w fun e w' => e = .returned (.string (xText (s, err) n).1) ∧ XBlk w' g (xText (s, err) n).2.1 (xText (s, err) n).2.2 ∧ Turn F w w' := by
  unfold xText
  generalize ht : xNum (s, err) 2 = N
  have HT := Lib.hid ht
  clear ht
  obtain ⟨a, s1, e1⟩ := N
  simp only
  by_cases he : e1 = 0
  · subst he
    rw [if_neg (by simp)]
    by_cases hna : n < a
    · rw [if_pos hna]
      go_enter Try.func20, Try.ntmps20
      go_wp2_with (go_at_call 18; refine (xnum_any F g s err 2 _ h hF).mono ?_; rw [HT.out]; rintro e w1 ⟨rfl, hw1, ht1⟩; have c1 := hw1.c1; have f1 : w1.frozen? ⟨g, 1, none⟩ = false := Blk.frozen hw1 1)
      go_ret
      exact ⟨rfl, Blk.set_ hw1 1 _, ht1.setCell hF _⟩
    · rw [if_neg hna]
      go_enter Try.func20, Try.ntmps20
      go_wp2_with (first
        | (go_at_call 18; refine (xnum_any F g s err 2 _ h hF).mono ?_; rw [HT.out]; rintro e w1 ⟨rfl, hw1, ht1⟩; have c1 := hw1.c1)
        | (go_at_call 22; refine (xraw_any F g s1 0 a _ hw1 hF).mono ?_; rintro e w2 ⟨rfl, hw2, ht2⟩))
      go_ret
      exact ⟨rfl, hw2, ht1.trans ht2⟩
  · rw [if_pos he]
    have hd : (e1 != 0) = true := by simpa using he
    clear he
    go_enter Try.func20, Try.ntmps20
    go_wp2_with (go_at_call 18; refine (xnum_any F g s err 2 _ h hF).mono ?_; rw [HT.out]; rintro e w1 ⟨rfl, hw1, ht1⟩; have c1 := hw1.c1)
    go_ret
    exact ⟨rfl, hw1, ht1⟩

def xEnd (st : ByteArray × Int) : Int := if st.2 ≠ 0 then st.2 else if 0 < st.1.size then 4 else 0
theorem xend_any (g : Nat) (s : ByteArray) (err : Int) (w : World) (h : XBlk w g s err) :
    Calls Try.prog 26 #[.pointer (some ⟨g, 0, none⟩)] w fun e w' => e = .returned (.int .i64 (xEnd (s, err))) ∧ w = w' := by
  have c0 := h.c0
  have c1 := h.c1
  by_cases he : err = 0
  · subst he
    by_cases hs : 0 < s.size
    · have e2 : xEnd (s, 0) = 4 := by unfold xEnd; rw [if_neg (by simp), if_pos hs]
      rw [e2]
      clear e2
      go_enter Try.func26, Try.ntmps26
      go_wp2
      go_ret
      exact ⟨rfl, rfl⟩
    · have e2 : xEnd (s, 0) = 0 := by unfold xEnd; rw [if_neg (by simp), if_neg hs]
      rw [e2]
      clear e2
      go_enter Try.func26, Try.ntmps26
      go_wp2
      go_ret
      exact ⟨rfl, rfl⟩
  · have e2 : xEnd (s, err) = err := by unfold xEnd; rw [if_pos he]
    rw [e2]
    have hd : (err == 0) = false := by simpa using he
    clear e2 he
    go_enter Try.func26, Try.ntmps26
    go_wp2
    go_ret
    exact ⟨rfl, rfl⟩

/-- the program's Reader and the document's: the same error, and where there is none the same rest -/
def Sim (a x : ByteArray × Int) : Prop := a.2 = x.2 ∧ (x.2 = 0 → a.1 = x.1)
theorem sim_take {a x : ByteArray × Int} (h : Sim a x) (n : Int) : (rTake a n).1 = (xTake x n).1 ∧ Sim (rTake a n).2 (xTake x n).2 := by
  obtain ⟨h1, h2⟩ := h
  unfold rTake xTake
  rw [h1]
  by_cases he : x.2 = 0
  · have h3 := h2 he
    have hne : ¬ (x.2 ≠ 0) := by simpa using he
    rw [if_neg hne, if_neg hne, h3]
    by_cases hn : n < 0
    · rw [if_pos hn, if_pos hn]
      exact ⟨rfl, rfl, fun h => by simp at h⟩
    · rw [if_neg hn, if_neg hn]
      by_cases hl : (x.1.size : Int) < n
      · rw [if_pos hl, if_pos hl]
        exact ⟨rfl, rfl, fun h => by simp at h⟩
      · rw [if_neg hl, if_neg hl]
        exact ⟨rfl, rfl, fun _ => rfl⟩
  · rw [if_pos he, if_pos he]
    exact ⟨rfl, h1, h2⟩
theorem sim_num {a x : ByteArray × Int} (h : Sim a x) (b : Int) : (rNum a b).1 = (xNum x b).1 ∧ Sim (rNum a b).2 (xNum x b).2 := by
  by_cases he : x.2 = 0
  · by_cases hs : sz b = false
    · have e1 : rNum a b = (0, (⟨#[]⟩, 1)) := by unfold rNum; rw [if_pos hs, if_neg (by rw [h.1]; simpa using he)]
      have e2 : xNum x b = (0, (x.1, 1)) := by unfold xNum; rw [if_neg (by simpa using he), if_pos hs]
      rw [e1, e2]
      exact ⟨rfl, rfl, fun h => by simp at h⟩
    · have e1 : rNum a b = (num (rTake a b).1.data.toList, (rTake a b).2) := by unfold rNum; rw [if_neg hs]
      have e2 : xNum x b = (num (xTake x b).1.data.toList, (xTake x b).2) := by unfold xNum; rw [if_neg (by simpa using he), if_neg hs]
      have ht := sim_take h b
      rw [e1, e2, ht.1]
      exact ⟨rfl, ht.2⟩
  · rw [rNum_stuck a b (by rw [h.1]; exact he)]
    have e2 : xNum x b = (0, x) := by unfold xNum; rw [if_pos he]
    rw [e2]
    exact ⟨rfl, h⟩
theorem sim_text {a x : ByteArray × Int} (h : Sim a x) (n : Int) : (rText a n).1 = (xText x n).1 ∧ Sim (rText a n).2 (xText x n).2 := by
  have hn := sim_num h 2
  unfold rText xText
  rw [hn.1]
  generalize rNum a 2 = N at *
  generalize xNum x 2 = M at *
  obtain ⟨p, a1⟩ := N
  obtain ⟨q, x1⟩ := M
  simp only at hn ⊢
  obtain ⟨rfl, hs⟩ := hn
  by_cases he : x1.2 = 0
  · have ha : ¬ (a1.2 ≠ 0) := by rw [hs.1]; simpa using he
    have hx : ¬ (x1.2 ≠ 0) := by simpa using he
    rw [if_neg hx]
    by_cases hl : n < p
    · rw [if_pos hl, if_pos hl, if_neg ha]
      exact ⟨rfl, rfl, fun h => by simp at h⟩
    · rw [if_neg hl, if_neg hl]
      exact sim_take hs p
  · have ha : a1.2 ≠ 0 := by rw [hs.1]; exact he
    rw [if_pos he]
    by_cases hl : n < p
    · rw [if_pos hl, if_pos ha]
      exact ⟨rfl, hs⟩
    · rw [if_neg hl]
      have e : rTake a1 p = (⟨#[]⟩, a1) := by unfold rTake; rw [if_pos ha]
      rw [e]
      exact ⟨rfl, hs⟩
theorem sim_left {a x : ByteArray × Int} (h : Sim a x) : rLeft a = if x.2 ≠ 0 then 0 else (x.1.size : Int) := by
  unfold rLeft
  rw [h.1]
  by_cases he : x.2 = 0
  · have hne : ¬ (x.2 ≠ 0) := by simpa using he
    rw [if_neg hne, if_neg hne, h.2 he]
  · rw [if_pos he, if_pos he]
theorem sim_end {a x : ByteArray × Int} (h : Sim a x) : rEnd a = xEnd x := by
  unfold rEnd xEnd
  rw [h.1]
  by_cases he : x.2 = 0
  · have hne : ¬ (x.2 ≠ 0) := by simpa using he
    rw [if_neg hne, if_neg hne, h.2 he]
    have e : x.1.data.toList.length = x.1.size := by rw [Array.length_toList]; rfl
    cases hl : x.1.data.toList with
    | nil =>
      rw [hl] at e
      rw [if_pos (by rfl), if_neg (by rw [← e]; simp)]
    | cons c l =>
      rw [hl] at e
      rw [if_neg (by simp), if_pos (by rw [← e]; simp)]
  · rw [if_pos he, if_pos he]
end Go.Proofs.Ytbloijnkkjmldaa.oct
