/-
  Numbers and texts as bytes, by plain functions: what octet's calls do on plain lists. No function of any package is named here.
-/
import Derived.Test.YtbhkegdohiekfaaDoorMema
import Derived.Lib.Strings
import Derived.Lib.BufferWrite
import Derived.Lib.UnsafeStr
import Derived.Lib.Walk
import Derived.Laws.MakeOwn
import Derived.Laws.BitsAllLaws
import Derived.Laws.BitsLemmas
import Derived.Laws.IdiomStrings
import Derived.Laws.BytesArg
namespace Go.Proofs.YtbhkegdohiekfaaDoor.oct
open Go.RowKit Go.Proofs.YtbhkegdohiekfaaDoor.mem

/-- is there a number of so many bytes? -/
def sz (n : Int) : Bool := n == 1 || (n == 2 || n == 4)

/-- the byte that a number's lowest eight bits are -/
def byte (x : Int) : UInt8 := UInt8.ofNat x.toNat
theorem byte_cell (x : Int) (h : 0 ≤ x) : Value.int .u8 (byte x).toNat = .int .u8 (x % 256) := by
  unfold byte
  have : (((UInt8.ofNat x.toNat).toNat : Nat) : Int) = x % 256 := by rw [UInt8.toNat_ofNat']; omega
  rw [this]
/-- a number's bytes, the highest first -/
def be (n b : Int) : List UInt8 := if b = 1 then [byte n] else if b = 2 then [byte (n / 256), byte n] else [byte (n / 16777216), byte (n / 65536), byte (n / 256), byte n]
theorem be1 (n : Int) (h0 : 0 ≤ n) : bCells (be n 1) = [.int .u8 (n % 256)] := by
  simp only [be, if_true, bCells, List.map_cons, List.map_nil, byte_cell n h0]
theorem be2 (n : Int) (h0 : 0 ≤ n) (h1 : n < 65536) : bCells (be n 2) = [.int .u8 (n / 256), .int .u8 (n % 256)] := by
  have e : n / 256 % 256 = n / 256 := by omega
  simp only [be, if_true, bCells, List.map_cons, List.map_nil, byte_cell n h0, byte_cell (n / 256) (by omega), e, show (2 : Int) ≠ 1 from by decide, if_false]
theorem be4 (n : Int) (h0 : 0 ≤ n) (h1 : n < 4294967296) : bCells (be n 4) = [.int .u8 (n / 16777216), .int .u8 (n / 65536 % 256), .int .u8 (n / 256 % 256), .int .u8 (n % 256)] := by
  have e : n / 16777216 % 256 = n / 16777216 := by omega
  simp only [be, bCells, List.map_cons, List.map_nil, byte_cell n h0, byte_cell (n / 256) (by omega), byte_cell (n / 65536) (by omega), byte_cell (n / 16777216) (by omega), e, show (4 : Int) ≠ 1 from by decide, show (4 : Int) ≠ 2 from by decide, if_false]

/-- the error with which a number is refused; 0: none -/
def numErr (n b : Int) : Int := if sz b = false then 1 else if n < 0 ∨ (if b = 1 then 256 else if b = 2 then 65536 else 4294967296) ≤ n then 5 else 0
def wNum (st : List UInt8 × Int) (n b : Int) : List UInt8 × Int := if st.2 ≠ 0 then st else if numErr n b ≠ 0 then ([], numErr n b) else (st.1 ++ be n b, 0)

def textBytes (s : ByteArray) : List UInt8 := be s.size 2 ++ s.data.toList

def wText (st : List UInt8 × Int) (s : ByteArray) : List UInt8 × Int := if st.2 ≠ 0 then st else if 65535 < s.size then ([], 3) else (st.1 ++ textBytes s, 0)
def wRaw (st : List UInt8 × Int) (s : ByteArray) : List UInt8 × Int := if st.2 ≠ 0 then st else (st.1 ++ s.data.toList, 0)
def wDone (st : List UInt8 × Int) : ByteArray × Int := if st.2 ≠ 0 then (⟨#[]⟩, st.2) else (⟨st.1.toArray⟩, 0)

/-- the number that some bytes are, the highest first -/
def num (l : List UInt8) : Int := l.foldl (fun (a : Int) b => a * 256 + b.toNat) 0

theorem u8_lt (b : UInt8) : (b.toNat : Int) < 256 := by have := b.toNat_lt; omega
theorem u8_ge (b : UInt8) : 0 ≤ (b.toNat : Int) := by omega

/-- the bytes that are left behind n, and what take answers -/
def rTake (st : ByteArray × Int) (n : Int) : ByteArray × (ByteArray × Int) :=
  if st.2 ≠ 0 then (⟨#[]⟩, st) else if n < 0 then (⟨#[]⟩, (⟨#[]⟩, 1)) else if (st.1.size : Int) < n then (⟨#[]⟩, (⟨#[]⟩, 2)) else (st.1.extract 0 n.toNat, (st.1.extract n.toNat st.1.size, 0))

def rNum (st : ByteArray × Int) (b : Int) : Int × (ByteArray × Int) :=
  if sz b = false then (0, if st.2 ≠ 0 then st else (⟨#[]⟩, 1)) else (num (rTake st b).1.data.toList, (rTake st b).2)
def rText (st : ByteArray × Int) (most : Int) : ByteArray × (ByteArray × Int) :=
  if most < (rNum st 2).1 then (⟨#[]⟩, if (rNum st 2).2.2 ≠ 0 then (rNum st 2).2 else (⟨#[]⟩, 3)) else rTake (rNum st 2).2 (rNum st 2).1

def rLeft (st : ByteArray × Int) : Int := if st.2 ≠ 0 then 0 else st.1.size
def rEnd (st : ByteArray × Int) : Int := if st.2 ≠ 0 then st.2 else if st.1.data.toList.isEmpty then 0 else 4
theorem byte_toNat (x : Int) (h : 0 ≤ x) : ((byte x).toNat : Int) = x % 256 := by
  unfold byte
  rw [UInt8.toNat_ofNat']; omega

theorem numErr_ok {n b : Int} (h : numErr n b = 0) : (b = 1 ∧ 0 ≤ n ∧ n < 256) ∨ (b = 2 ∧ 0 ≤ n ∧ n < 65536) ∨ (b = 4 ∧ 0 ≤ n ∧ n < 4294967296) := by
  unfold numErr at h
  by_cases hs : sz b = false
  · rw [if_pos hs] at h; omega
  · rw [if_neg hs] at h
    have hb : b = 1 ∨ b = 2 ∨ b = 4 := by simp [sz] at hs; omega
    by_cases hr : n < 0 ∨ (if b = 1 then 256 else if b = 2 then 65536 else 4294967296) ≤ n
    · rw [if_pos hr] at h; omega
    · rcases hb with rfl | rfl | rfl
      · rw [if_pos rfl] at hr; omega
      · rw [if_neg (by decide), if_pos rfl] at hr; omega
      · rw [if_neg (by decide), if_neg (by decide)] at hr; omega

theorem num_be {n b : Int} (h : numErr n b = 0) : num (be n b) = n ∧ ((be n b).length : Int) = b ∧ sz b = true := by
  rcases numErr_ok h with ⟨rfl, h0, h1⟩ | ⟨rfl, h0, h1⟩ | ⟨rfl, h0, h1⟩
  · refine ⟨?_, rfl, rfl⟩
    simp only [be, if_true, num, List.foldl_cons, List.foldl_nil, byte_toNat n h0]
    omega
  · refine ⟨?_, rfl, rfl⟩
    simp only [be, if_true, num, List.foldl_cons, List.foldl_nil, byte_toNat n h0, byte_toNat (n / 256) (by omega), show (2 : Int) ≠ 1 from by decide, if_false]
    omega
  · refine ⟨?_, rfl, rfl⟩
    simp only [be, num, List.foldl_cons, List.foldl_nil, byte_toNat n h0, byte_toNat (n / 256) (by omega), byte_toNat (n / 65536) (by omega), byte_toNat (n / 16777216) (by omega), show (4 : Int) ≠ 1 from by decide, show (4 : Int) ≠ 2 from by decide, if_false]
    omega

/-- bytes as a text -/
def tx (l : List UInt8) : ByteArray := ⟨l.toArray⟩
theorem tx_size (l : List UInt8) : (tx l).size = l.length := by
  show l.toArray.size = _
  simp
theorem tx_list (l : List UInt8) : (tx l).data.toList = l := by simp [tx]
theorem tx_eta (s : ByteArray) : tx s.data.toList = s := by
  cases s; simp [tx]
theorem bytes_ext {a b : ByteArray} (h : a.data.toList = b.data.toList) : a = b := by
  rw [← tx_eta a, ← tx_eta b, h]
theorem tx_extract (l : List UInt8) (i j : Nat) : (tx l).extract i j = tx ((l.take j).drop i) := by
  apply bytes_ext
  rw [tx_list, ByteArray.data_extract, Array.toList_extract]
  simp [tx, List.drop_take]
theorem numErr_size (s : ByteArray) (h : s.size ≤ 65535) : numErr s.size 2 = 0 := by
  have hs : sz 2 = true := rfl
  unfold numErr
  rw [if_neg (by simp [hs]), if_neg (by simp; omega)]
theorem be_len (n b : Int) : (be n b).length ≤ 4 := by
  unfold be
  split
  · simp
  · split
    · simp
    · simp
end Go.Proofs.YtbhkegdohiekfaaDoor.oct
