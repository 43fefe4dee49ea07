/-
  Numbers and texts as bytes, by plain functions: what octet's calls do on plain lists. No function of any package is named here.
  Contracts of the document's own answers for layer 1 (petrelref01): its Reader.
  petrelref01.Reader by plain functions: what is left, and the first error (no ids).
-/
import Derived.Test.YtkbbeioednhefaaGreatDoorMema
import Derived.Lib.Strings
import Derived.Lib.BufferWrite
import Derived.Lib.UnsafeStr
import Derived.Lib.Walk
import Derived.Laws.MakeOwn
import Derived.Laws.BitsAllLaws
import Derived.Laws.BitsLemmas
import Derived.Laws.IdiomStrings
import Derived.Laws.BytesArg
import Derived.Outline
import Derived.Test.YtkbbeioednhefaaGreatDoorOpp
import Derived.Test.YtkbbeioednhefaaGreatDoorRdm
import Derived.Test.YtkbbeioednhefaaGreatDoorSha
import Derived.Deep.RegionWith
import Derived.Deep.CutRange
import Derived.Deep.CutBlock
namespace Go.Proofs.YtkbbeioednhefaaGreatDoor.oct
open Go.RowKit Go.Proofs.YtkbbeioednhefaaGreatDoor.mem

/-- is there a number of so many bytes? -/
def sz (n : Int) : Bool := n == 1 || (n == 2 || n == 4)

/-- the byte that a number's lowest eight bits are -/
def byte (x : Int) : UInt8 := UInt8.ofNat x.toNat
theorem byte_cell (x : Int) (h : 0 ≤ x) : Value.int .u8 (byte x).toNat = .int .u8 (x % 256) := by
  unfold byte
  have : (((UInt8.ofNat x.toNat).toNat : Nat) : Int) = x % 256 := by rw [UInt8.toNat_ofNat']; omega
  rw [this]
/-- a number's bytes, the highest first -/
def be (n b : Int) : List UInt8 := if b = 1 then [byte n] else if b = 2 then [byte (n / 256), byte n] else [byte (n / 16777216), byte (n / 65536), byte (n / 256), byte n]
theorem be1 (n : Int) (h0 : 0 ≤ n) : bCells (be n 1) = [.int .u8 (n % 256)] := by
  simp only [be, if_true, bCells, List.map_cons, List.map_nil, byte_cell n h0]
theorem be2 (n : Int) (h0 : 0 ≤ n) (h1 : n < 65536) : bCells (be n 2) = [.int .u8 (n / 256), .int .u8 (n % 256)] := by
  have e : n / 256 % 256 = n / 256 := by omega
  simp only [be, if_true, bCells, List.map_cons, List.map_nil, byte_cell n h0, byte_cell (n / 256) (by omega), e, show (2 : Int) ≠ 1 from by decide, if_false]
theorem be4 (n : Int) (h0 : 0 ≤ n) (h1 : n < 4294967296) : bCells (be n 4) = [.int .u8 (n / 16777216), .int .u8 (n / 65536 % 256), .int .u8 (n / 256 % 256), .int .u8 (n % 256)] := by
  have e : n / 16777216 % 256 = n / 16777216 := by omega
  simp only [be, bCells, List.map_cons, List.map_nil, byte_cell n h0, byte_cell (n / 256) (by omega), byte_cell (n / 65536) (by omega), byte_cell (n / 16777216) (by omega), e, show (4 : Int) ≠ 1 from by decide, show (4 : Int) ≠ 2 from by decide, if_false]

/-- the error with which a number is refused; 0: none -/
def numErr (n b : Int) : Int := if sz b = false then 1 else if n < 0 ∨ (if b = 1 then 256 else if b = 2 then 65536 else 4294967296) ≤ n then 5 else 0
def wNum (st : List UInt8 × Int) (n b : Int) : List UInt8 × Int := if st.2 ≠ 0 then st else if numErr n b ≠ 0 then ([], numErr n b) else (st.1 ++ be n b, 0)

def textBytes (s : ByteArray) : List UInt8 := be s.size 2 ++ s.data.toList

def wText (st : List UInt8 × Int) (s : ByteArray) : List UInt8 × Int := if st.2 ≠ 0 then st else if 65535 < s.size then ([], 3) else (st.1 ++ textBytes s, 0)
def wRaw (st : List UInt8 × Int) (s : ByteArray) : List UInt8 × Int := if st.2 ≠ 0 then st else (st.1 ++ s.data.toList, 0)
def wDone (st : List UInt8 × Int) : ByteArray × Int := if st.2 ≠ 0 then (⟨#[]⟩, st.2) else (⟨st.1.toArray⟩, 0)

/-- the number that some bytes are, the highest first -/
def num (l : List UInt8) : Int := l.foldl (fun (a : Int) b => a * 256 + b.toNat) 0

theorem u8_lt (b : UInt8) : (b.toNat : Int) < 256 := by have := b.toNat_lt; omega
theorem u8_ge (b : UInt8) : 0 ≤ (b.toNat : Int) := by omega

/-- the bytes that are left behind n, and what take answers -/
def rTake (st : ByteArray × Int) (n : Int) : ByteArray × (ByteArray × Int) :=
  if st.2 ≠ 0 then (⟨#[]⟩, st) else if n < 0 then (⟨#[]⟩, (⟨#[]⟩, 1)) else if (st.1.size : Int) < n then (⟨#[]⟩, (⟨#[]⟩, 2)) else (st.1.extract 0 n.toNat, (st.1.extract n.toNat st.1.size, 0))

def rNum (st : ByteArray × Int) (b : Int) : Int × (ByteArray × Int) :=
  if sz b = false then (0, if st.2 ≠ 0 then st else (⟨#[]⟩, 1)) else (num (rTake st b).1.data.toList, (rTake st b).2)
def rText (st : ByteArray × Int) (most : Int) : ByteArray × (ByteArray × Int) :=
  if most < (rNum st 2).1 then (⟨#[]⟩, if (rNum st 2).2.2 ≠ 0 then (rNum st 2).2 else (⟨#[]⟩, 3)) else rTake (rNum st 2).2 (rNum st 2).1

def rLeft (st : ByteArray × Int) : Int := if st.2 ≠ 0 then 0 else st.1.size
def rEnd (st : ByteArray × Int) : Int := if st.2 ≠ 0 then st.2 else if st.1.data.toList.isEmpty then 0 else 4
theorem byte_toNat (x : Int) (h : 0 ≤ x) : ((byte x).toNat : Int) = x % 256 := by
  unfold byte
  rw [UInt8.toNat_ofNat']; omega

theorem numErr_ok {n b : Int} (h : numErr n b = 0) : (b = 1 ∧ 0 ≤ n ∧ n < 256) ∨ (b = 2 ∧ 0 ≤ n ∧ n < 65536) ∨ (b = 4 ∧ 0 ≤ n ∧ n < 4294967296) := by
  unfold numErr at h
  by_cases hs : sz b = false
  · rw [if_pos hs] at h; omega
  · rw [if_neg hs] at h
    have hb : b = 1 ∨ b = 2 ∨ b = 4 := by simp [sz] at hs; omega
    by_cases hr : n < 0 ∨ (if b = 1 then 256 else if b = 2 then 65536 else 4294967296) ≤ n
    · rw [if_pos hr] at h; omega
    · rcases hb with rfl | rfl | rfl
      · rw [if_pos rfl] at hr; omega
      · rw [if_neg (by decide), if_pos rfl] at hr; omega
      · rw [if_neg (by decide), if_neg (by decide)] at hr; omega

theorem num_be {n b : Int} (h : numErr n b = 0) : num (be n b) = n ∧ ((be n b).length : Int) = b ∧ sz b = true := by
  rcases numErr_ok h with ⟨rfl, h0, h1⟩ | ⟨rfl, h0, h1⟩ | ⟨rfl, h0, h1⟩
  · refine ⟨?_, rfl, rfl⟩
    simp only [be, if_true, num, List.foldl_cons, List.foldl_nil, byte_toNat n h0]
    omega
  · refine ⟨?_, rfl, rfl⟩
    simp only [be, if_true, num, List.foldl_cons, List.foldl_nil, byte_toNat n h0, byte_toNat (n / 256) (by omega), show (2 : Int) ≠ 1 from by decide, if_false]
    omega
  · refine ⟨?_, rfl, rfl⟩
    simp only [be, num, List.foldl_cons, List.foldl_nil, byte_toNat n h0, byte_toNat (n / 256) (by omega), byte_toNat (n / 65536) (by omega), byte_toNat (n / 16777216) (by omega), show (4 : Int) ≠ 1 from by decide, show (4 : Int) ≠ 2 from by decide, if_false]
    omega

/-- bytes as a text -/
def tx (l : List UInt8) : ByteArray := ⟨l.toArray⟩
theorem tx_size (l : List UInt8) : (tx l).size = l.length := by
  show l.toArray.size = _
  simp
theorem tx_list (l : List UInt8) : (tx l).data.toList = l := by simp [tx]
theorem tx_eta (s : ByteArray) : tx s.data.toList = s := by
  cases s; simp [tx]
theorem bytes_ext {a b : ByteArray} (h : a.data.toList = b.data.toList) : a = b := by
  rw [← tx_eta a, ← tx_eta b, h]
theorem tx_extract (l : List UInt8) (i j : Nat) : (tx l).extract i j = tx ((l.take j).drop i) := by
  apply bytes_ext
  rw [tx_list, ByteArray.data_extract, Array.toList_extract]
  simp [tx, List.drop_take]
theorem numErr_size (s : ByteArray) (h : s.size ≤ 65535) : numErr s.size 2 = 0 := by
  have hs : sz 2 = true := rfl
  unfold numErr
  rw [if_neg (by simp [hs]), if_neg (by simp; omega)]
theorem be_len (n b : Int) : (be n b).length ≤ 4 := by
  unfold be
  split
  · simp
  · split
    · simp
    · simp
end Go.Proofs.YtkbbeioednhefaaGreatDoor.oct

namespace Go.Proofs.YtkbbeioednhefaaGreatDoor.oct
open Go.RowKit Go.Proofs.YtkbbeioednhefaaGreatDoor.mem

def XBlk (w : World) (g : Nat) (s : ByteArray) (e : Int) : Prop := Blk w g 112 #[.string s, .int .i64 e]
theorem XBlk.c0 {w : World} {g : Nat} {s : ByteArray} {e : Int} (h : XBlk w g s e) : w.cell? ⟨g, 0, none⟩ = some (.string s) := Blk.cell h 0
theorem XBlk.c1 {w : World} {g : Nat} {s : ByteArray} {e : Int} (h : XBlk w g s e) : w.cell? ⟨g, 1, none⟩ = some (.int .i64 e) := Blk.cell h 1

def xTake (st : ByteArray × Int) (n : Int) : ByteArray × (ByteArray × Int) :=
  if st.2 ≠ 0 then (⟨#[]⟩, st) else if n < 0 then (⟨#[]⟩, (st.1, 1)) else if (st.1.size : Int) < n then (⟨#[]⟩, (st.1, 2)) else (st.1.extract 0 n.toNat, (st.1.extract n.toNat st.1.size, 0))

theorem xraw_err (g : Nat) (s : ByteArray) (e0 n : Int) (w : World) (h : XBlk w g s e0) (h0 : e0 ≠ 0) :
    Calls Tryz.prog 90 #[.pointer (some ⟨g, 0, none⟩), .int .i64 n] w fun e w' => e = .returned (.string ⟨#[]⟩) ∧ w = w' := by
  have c1 := h.c1
  have hd : (e0 != 0) = true := by simpa using h0
  clear h0
  go_enter Tryz.func90, Tryz.ntmps90
  go_wp2
  go_ret
  exact ⟨rfl, rfl⟩
theorem xraw_neg (g : Nat) (s : ByteArray) (n : Int) (w : World) (h : XBlk w g s 0) (h0 : n < 0) :
    Calls Tryz.prog 90 #[.pointer (some ⟨g, 0, none⟩), .int .i64 n] w fun e w' => e = .returned (.string ⟨#[]⟩) ∧ w' = w.setCell ⟨g, 1, none⟩ (.int .i64 1) := by
  have c1 := h.c1
  have f1 : w.frozen? ⟨g, 1, none⟩ = false := Blk.frozen h 1
  go_enter Tryz.func90, Tryz.ntmps90
  go_wp2
  go_ret
  exact ⟨rfl, rfl⟩
theorem xraw_short (g : Nat) (s : ByteArray) (n : Int) (w : World) (h : XBlk w g s 0) (h0 : (s.size : Int) < n) :
    Calls Tryz.prog 90 #[.pointer (some ⟨g, 0, none⟩), .int .i64 n] w fun e w' => e = .returned (.string ⟨#[]⟩) ∧ w' = w.setCell ⟨g, 1, none⟩ (.int .i64 2) := by
  have c0 := h.c0
  have c1 := h.c1
  have f1 : w.frozen? ⟨g, 1, none⟩ = false := Blk.frozen h 1
  have hn : ¬ n < 0 := by omega
  go_enter Tryz.func90, Tryz.ntmps90
  go_wp2
  go_ret
  exact ⟨rfl, rfl⟩
theorem xraw_good (g : Nat) (s : ByteArray) (n : Nat) (w : World) (h : XBlk w g s 0) (h0 : n ≤ s.size) :
    Calls Tryz.prog 90 #[.pointer (some ⟨g, 0, none⟩), .int .i64 n] w fun e w' => e = .returned (.string (s.extract 0 n)) ∧ w' = w.setCell ⟨g, 0, none⟩ (.string (s.extract n s.size)) := by
  have c0 := h.c0
  have c1 := h.c1
  have f0 : w.frozen? ⟨g, 0, none⟩ = false := Blk.frozen h 0
  have hn : ¬ (n : Int) < 0 := by omega
  have hn2 : ¬ (s.size : Int) < (n : Int) := by omega
  go_enter Tryz.func90, Tryz.ntmps90
  go_wp2
  go_ret
  exact ⟨rfl, rfl⟩

theorem xraw_any (F : Nat → Prop) (g : Nat) (s : ByteArray) (err n : Int) (w : World) (h : XBlk w g s err) (hF : F g) :
    Calls Tryz.prog 90 #[.pointer (some ⟨g, 0, none⟩), .int .i64 n] w fun e w' => e = .returned (.string (xTake (s, err) n).1) ∧ XBlk w' g (xTake (s, err) n).2.1 (xTake (s, err) n).2.2 ∧ Turn F w w' := by
  by_cases he : err = 0
  · subst he
    by_cases h0 : n < 0
    · have e2 : xTake (s, 0) n = (⟨#[]⟩, (s, 1)) := by unfold xTake; rw [if_neg (by simp), if_pos h0]
      rw [e2]
      refine (xraw_neg g s n w h h0).mono fun e w' ⟨h1, h2⟩ => ⟨h1, ?_, ?_⟩
      · subst h2; exact Blk.set_ h 1 _
      · subst h2; exact (Turn.refl F w).setCell hF _
    · by_cases h1 : (s.size : Int) < n
      · have e2 : xTake (s, 0) n = (⟨#[]⟩, (s, 2)) := by unfold xTake; rw [if_neg (by simp), if_neg h0, if_pos h1]
        rw [e2]
        refine (xraw_short g s n w h h1).mono fun e w' ⟨h1, h2⟩ => ⟨h1, ?_, ?_⟩
        · subst h2; exact Blk.set_ h 1 _
        · subst h2; exact (Turn.refl F w).setCell hF _
      · obtain ⟨k, rfl⟩ := Int.eq_ofNat_of_zero_le (by omega : 0 ≤ n)
        have e2 : xTake (s, 0) (k : Int) = (s.extract 0 k, (s.extract k s.size, 0)) := by unfold xTake; rw [if_neg (by simp), if_neg h0, if_neg h1, Int.toNat_natCast]
        rw [e2]
        refine (xraw_good g s k w h (by omega)).mono fun e w' ⟨h1, h2⟩ => ⟨h1, ?_, ?_⟩
        · subst h2; exact Blk.set_ h 0 _
        · subst h2; exact (Turn.refl F w).setCell hF _
  · have e2 : xTake (s, err) n = (⟨#[]⟩, (s, err)) := by unfold xTake; rw [if_pos he]
    rw [e2]
    refine (xraw_err g s err n w h he).mono fun e w' ⟨h1, h2⟩ => ⟨h1, ?_, ?_⟩
    · subst h2; exact h
    · subst h2; exact Turn.refl F w

theorem num_snoc (l : List UInt8) (b : UInt8) : num (l ++ [b]) = num l * 256 + b.toNat := by simp [num, List.foldl_append]
theorem num_bd (l : List UInt8) (h : l.length ≤ 4) : 0 ≤ num l ∧ num l < 4294967296 := by
  match l, h with
  | [], _ => simp [num]
  | [a], _ => have := u8_lt a; simp [num]; omega
  | [a, b], _ => have := u8_lt a; have := u8_lt b; simp [num]; omega
  | [a, b, c], _ => have := u8_lt a; have := u8_lt b; have := u8_lt c; simp [num]; omega
  | [a, b, c, d], _ => have := u8_lt a; have := u8_lt b; have := u8_lt c; have := u8_lt d; simp [num]; omega

theorem take_snoc (s : ByteArray) (k : Nat) (h : k < s.size) : s.data.toList.take (k + 1) = s.data.toList.take k ++ [s[k]] := by
  rw [List.take_succ_eq_append_getElem (by simpa using h)]; rfl

/-- the tail of the ref's Num: the bytes put together -/
def xNum (st : ByteArray × Int) (b : Int) : Int × (ByteArray × Int) :=
  if st.2 ≠ 0 then (0, st) else if sz b = false then (0, (st.1, 1)) else (num (xTake st b).1.data.toList, (xTake st b).2)
theorem xTake_size (st : ByteArray × Int) (n : Int) : (xTake st n).1.size = 0 ∨ ((xTake st n).1.size : Int) = n := by
  unfold xTake
  split
  · exact .inl rfl
  · split
    · exact .inl rfl
    · split
      · exact .inl rfl
      · right
        rw [ByteArray.size_extract]
        omega

theorem mm1 : max (0 : Int) (min 1 4) = 1 := by decide
theorem mm2 : max (0 : Int) (min 2 4) = 2 := by decide
theorem mm4 : max (0 : Int) 4 = 4 := by decide

theorem xnum_good (F : Nat → Prop) (g : Nat) (s : ByteArray) (b : Int) (w : World) (h : XBlk w g s 0) (hF : F g) (hb : b = 1 ∨ b = 2 ∨ b = 4) :
    Calls Tryz.prog 66 #[.pointer (some ⟨g, 0, none⟩), .int .i64 b] w fun e w' => e = .returned (.int .i64 (num (xTake (s, 0) b).1.data.toList)) ∧ XBlk w' g (xTake (s, 0) b).2.1 (xTake (s, 0) b).2.2 ∧ Turn F w w' := by
  have hsz := xTake_size (s, 0) b
  generalize ht : xTake (s, 0) b = T at hsz
  have HT := Lib.hid ht
  clear ht
  obtain ⟨T, T2, T3⟩ := T
  have hsz4 : T.size ≤ 4 := by simp only at hsz; omega
  have c1 := h.c1
  clear hsz
  rcases hb with rfl | rfl | rfl
  all_goals
    go_enter Tryz.func66, Tryz.ntmps66
    go_wp2_with (go_at_call 90; (first | rw [mm1] | rw [mm2] | rw [mm4]); refine (xraw_any F g s 0 _ _ h hF).mono ?_; rw [HT.out]; rintro e w1 ⟨rfl, hw1, ht1⟩)
    go_loop [6, 7] (fun n i => ∃ k : Nat, k ≤ T.size ∧ i = .int .i64 k ∧ n = .int .i64 (num (T.data.toList.take k))) (fun _ i => T.size - (intOf i).toNat)
    case atStart => exact ⟨0, Nat.zero_le _, rfl, rfl⟩
    case round =>
      obtain ⟨k, hk, rfl, rfl⟩ := hrel
      have hd := num_bd (T.data.toList.take k) (by rw [List.length_take]; omega)
      obtain ⟨hd0, hd1⟩ := hd
      by_cases hlt : k < T.size
      · have hsn := num_snoc (T.data.toList.take k) T[k]
        have hts := take_snoc T k hlt
        have HS : Hid (num (T.data.toList.take (k + 1)) = num (T.data.toList.take k) * 256 + T[k].toNat) := by rw [hts]; exact hsn
        clear hsn hts
        have u0 := u8_lt T[k]
        go_wp2
        go_round
        case rel => exact ⟨k + 1, by omega, by go_num, by rw [HS.out]; congr 1; omega⟩
        case measure => simp [intOf]; omega
      · go_wp2
        go_ret
        have e : T.data.toList.take k = T.data.toList := List.take_of_length_le (by rw [Array.length_toList]; show T.size ≤ k; omega)
        rw [e]
        exact ⟨rfl, hw1, ht1⟩

theorem xnum_err (g : Nat) (s : ByteArray) (e0 b : Int) (w : World) (h : XBlk w g s e0) (h0 : e0 ≠ 0) :
    Calls Tryz.prog 66 #[.pointer (some ⟨g, 0, none⟩), .int .i64 b] w fun e w' => e = .returned (.int .i64 0) ∧ w = w' := by
  have c1 := h.c1
  have hd : (e0 == 0) = false := by simpa using h0
  have H0 := Lib.hid h0
  clear h0
  go_enter Tryz.func66, Tryz.ntmps66
  go_wp2_with (go_at_call 90; refine (xraw_err g s e0 _ _ h H0.out).mono ?_; rintro e w1 ⟨rfl, rfl⟩)
  go_loop [6, 7] (fun n i => n = .int .i64 0 ∧ i = .int .i64 0) (fun _ _ => 0)
  case atStart => exact ⟨rfl, rfl⟩
  case round =>
    obtain ⟨rfl, rfl⟩ := hrel
    go_wp2
    go_ret
    exact ⟨rfl, rfl⟩

theorem xnum_size (F : Nat → Prop) (g : Nat) (s : ByteArray) (b : Int) (w : World) (h : XBlk w g s 0) (hF : F g) (hb : sz b = false) :
    Calls Tryz.prog 66 #[.pointer (some ⟨g, 0, none⟩), .int .i64 b] w fun e w' => e = .returned (.int .i64 0) ∧ XBlk w' g s 1 ∧ Turn F w w' := by
  have c1 := h.c1
  have f1 : w.frozen? ⟨g, 1, none⟩ = false := Blk.frozen h 1
  have h3 : b ≠ 1 ∧ b ≠ 2 ∧ b ≠ 4 := by simp [sz] at hb; omega
  obtain ⟨h1, h2, h4⟩ := h3
  have d1 : (b != 1) = true := by simpa using h1
  have d2 : (b != 2) = true := by simpa using h2
  have d4 : (b != 4) = true := by simpa using h4
  clear h1 h2 h4 hb
  have hX : XBlk (w.setCell ⟨g, 1, none⟩ (.int .i64 1)) g s 1 := Blk.set_ h 1 _
  have hT : Turn F w (w.setCell ⟨g, 1, none⟩ (.int .i64 1)) := (Turn.refl F w).setCell hF _
  go_enter Tryz.func66, Tryz.ntmps66
  go_wp2_with (go_at_call 90; refine (xraw_err g s 1 _ _ hX (by decide)).mono ?_; rintro e w1 ⟨rfl, rfl⟩)
  go_loop [6, 7] (fun n i => n = .int .i64 0 ∧ i = .int .i64 0) (fun _ _ => 0)
  case atStart => exact ⟨rfl, rfl⟩
  case round =>
    obtain ⟨rfl, rfl⟩ := hrel
    go_wp2
    go_ret
    exact ⟨rfl, hX, hT⟩

theorem xnum_any (F : Nat → Prop) (g : Nat) (s : ByteArray) (err b : Int) (w : World) (h : XBlk w g s err) (hF : F g) :
    Calls Tryz.prog 66 #[.pointer (some ⟨g, 0, none⟩), .int .i64 b] w fun e w' => e = .returned (.int .i64 (xNum (s, err) b).1) ∧ XBlk w' g (xNum (s, err) b).2.1 (xNum (s, err) b).2.2 ∧ Turn F w w' := by
  by_cases he : err = 0
  · subst he
    by_cases hs : sz b = false
    · have e2 : xNum (s, 0) b = (0, (s, 1)) := by unfold xNum; rw [if_neg (by simp), if_pos hs]
      rw [e2]
      exact xnum_size F g s b w h hF hs
    · have e2 : xNum (s, 0) b = (num (xTake (s, 0) b).1.data.toList, (xTake (s, 0) b).2) := by unfold xNum; rw [if_neg (by simp), if_neg hs]
      rw [e2]
      exact xnum_good F g s b w h hF (by simp [sz] at hs; omega)
  · have e2 : xNum (s, err) b = (0, (s, err)) := by unfold xNum; rw [if_pos he]
    rw [e2]
    refine (xnum_err g s err b w h he).mono fun e w' ⟨h1, h2⟩ => ⟨h1, ?_, ?_⟩
    · subst h2; exact h
    · subst h2; exact Turn.refl F w

end Go.Proofs.YtkbbeioednhefaaGreatDoor.oct

namespace Go.Proofs.YtkbbeioednhefaaGreatDoor.opn
open Go.RowKit Go.Proofs.YtkbbeioednhefaaGreatDoor.mem Go.Proofs.YtkbbeioednhefaaGreatDoor.sha

def Sr (x : ByteArray × Int) (st : St) : Prop := st.2 = x.2 ∧ (x.2 = 0 → x.1 = oct.tx st.1)
theorem sr_take {x : ByteArray × Int} {st : St} (h : Sr x st) (n : Nat) : (oct.xTake x n).1 = oct.tx (rd n st).1 ∧ Sr (oct.xTake x n).2 (rd n st).2 := by
  obtain ⟨s, e⟩ := x
  obtain ⟨l, e'⟩ := st
  obtain ⟨h1, h2⟩ := h
  simp only at h1 h2
  subst h1
  unfold oct.xTake rd
  by_cases h0 : e' = 0
  · subst h0
    obtain rfl := h2 rfl
    simp only [ne_eq, not_true, if_false]
    rw [if_neg (by omega), oct.tx_size]
    by_cases hl : l.length < n
    · rw [if_pos (by omega), if_pos hl]
      exact ⟨rfl, rfl, fun h => absurd (show (2 : Int) = 0 from h) (by decide)⟩
    · rw [if_neg (by omega), if_neg hl]
      simp only [Int.toNat_natCast]
      refine ⟨?_, rfl, fun _ => ?_⟩
      · rw [oct.tx_extract, List.drop_zero]
      · rw [oct.tx_extract, List.take_of_length_le (Nat.le_refl _)]
  · simp only [ne_eq, h0, not_false_eq_true, if_true]
    exact ⟨rfl, rfl, fun h => absurd h h0⟩
theorem sr_num {x : ByteArray × Int} {st : St} (h : Sr x st) (b : Nat) (hb : b = 1 ∨ b = 2 ∨ b = 4) : (oct.xNum x b).1 = (rdN b st).1 ∧ Sr (oct.xNum x b).2 (rdN b st).2 := by
  have hs := sr_take h b
  unfold oct.xNum rdN
  by_cases h0 : x.2 = 0
  · rw [if_neg (by simpa using h0), if_neg (by rcases hb with rfl | rfl | rfl <;> decide)]
    refine ⟨?_, hs.2⟩
    rw [hs.1, oct.tx_list]
    rfl
  · rw [if_pos h0, rd]
    rw [if_pos (by rw [h.1]; exact h0)]
    exact ⟨rfl, h.1, fun hh => absurd hh h0⟩
/-- a Reader in block g, by what is left and the first error -/
def RdrS (w : World) (g : Nat) (st : St) : Prop := ∃ s e, oct.XBlk w g s e ∧ Sr (s, e) st
theorem RdrS.turn {F : Nat → Prop} {w w' : World} {g : Nat} {st : St} (h : RdrS w g st) (ht : Turn F w w') (hg : ¬ F g) : RdrS w' g st := by
  obtain ⟨s, e, hx, hs⟩ := h
  exact ⟨s, e, Blk.turn hx ht hg, hs⟩
theorem RdrS.err {w : World} {g : Nat} {st : St} (h : RdrS w g st) : w.cell? ⟨g, 1, none⟩ = some (.int .i64 st.2) := by
  obtain ⟨s, e, hx, hs⟩ := h
  rw [hs.1]
  exact hx.c1
theorem RdrS.lt {w : World} {g : Nat} {st : St} (h : RdrS w g st) : g < w.heap.size := by
  obtain ⟨s, e, hx, hs⟩ := h
  exact Blk.lt hx
theorem num_s (g : Nat) (st : St) (b : Nat) (hb : b = 1 ∨ b = 2 ∨ b = 4) (w : World) (h : RdrS w g st) :
    Calls Tryz.prog 66 #[.pointer (some ⟨g, 0, none⟩), .int .i64 (b : Int)] w fun e w' => e = .returned (.int .i64 (rdN b st).1) ∧ RdrS w' g (rdN b st).2 ∧ Turn (· = g) w w' := by
  obtain ⟨s, e, hx, hs⟩ := h
  refine (oct.xnum_any (· = g) g s e b w hx rfl).mono ?_
  rintro e2 w2 ⟨rfl, h2, ht⟩
  have := sr_num hs b hb
  exact ⟨by rw [this.1], ⟨_, _, h2, this.2⟩, ht⟩
theorem num1_s (g : Nat) (st : St) (w : World) (h : RdrS w g st) :
    Calls Tryz.prog 66 #[.pointer (some ⟨g, 0, none⟩), .int .i64 1] w fun e w' => e = .returned (.int .i64 (rdN 1 st).1) ∧ RdrS w' g (rdN 1 st).2 ∧ Turn (· = g) w w' := num_s g st 1 (.inl rfl) w h
theorem num2_s (g : Nat) (st : St) (w : World) (h : RdrS w g st) :
    Calls Tryz.prog 66 #[.pointer (some ⟨g, 0, none⟩), .int .i64 2] w fun e w' => e = .returned (.int .i64 (rdN 2 st).1) ∧ RdrS w' g (rdN 2 st).2 ∧ Turn (· = g) w w' := num_s g st 2 (.inr (.inl rfl)) w h
theorem num4_s (g : Nat) (st : St) (w : World) (h : RdrS w g st) :
    Calls Tryz.prog 66 #[.pointer (some ⟨g, 0, none⟩), .int .i64 4] w fun e w' => e = .returned (.int .i64 (rdN 4 st).1) ∧ RdrS w' g (rdN 4 st).2 ∧ Turn (· = g) w w' := num_s g st 4 (.inr (.inr rfl)) w h
theorem raw_s (g : Nat) (st : St) (n : Int) (hn : 0 ≤ n) (w : World) (h : RdrS w g st) :
    Calls Tryz.prog 90 #[.pointer (some ⟨g, 0, none⟩), .int .i64 n] w fun e w' => e = .returned (.string (oct.tx (rd n.toNat st).1)) ∧ RdrS w' g (rd n.toNat st).2 ∧ Turn (· = g) w w' := by
  obtain ⟨s, e, hx, hs⟩ := h
  refine (oct.xraw_any (· = g) g s e n w hx rfl).mono ?_
  rintro e2 w2 ⟨rfl, h2, ht⟩
  have := sr_take hs n.toNat
  rw [Int.toNat_of_nonneg hn] at this
  exact ⟨by rw [this.1], ⟨_, _, h2, this.2⟩, ht⟩
end Go.Proofs.YtkbbeioednhefaaGreatDoor.opn
