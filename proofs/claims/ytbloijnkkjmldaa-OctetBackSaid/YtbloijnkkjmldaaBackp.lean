/-
  There and back, in plain lists: what is written is read as it was.
-/
import Derived.Test.YtbloijnkkjmldaaOctx
import Derived.Test.YtbloijnkkjmldaaOcts
namespace Go.Proofs.Ytbloijnkkjmldaa.oct
open Go.RowKit

theorem byte_toNat (x : Int) (h : 0 ≤ x) : ((byte x).toNat : Int) = x % 256 := by
  unfold byte
  rw [UInt8.toNat_ofNat']; omega

theorem numErr_ok {n b : Int} (h : numErr n b = 0) : (b = 1 ∧ 0 ≤ n ∧ n < 256) ∨ (b = 2 ∧ 0 ≤ n ∧ n < 65536) ∨ (b = 4 ∧ 0 ≤ n ∧ n < 4294967296) := by
  unfold numErr at h
  by_cases hs : sz b = false
  · rw [if_pos hs] at h; omega
  · rw [if_neg hs] at h
    have hb : b = 1 ∨ b = 2 ∨ b = 4 := by simp [sz] at hs; omega
    by_cases hr : n < 0 ∨ (if b = 1 then 256 else if b = 2 then 65536 else 4294967296) ≤ n
    · rw [if_pos hr] at h; omega
    · rcases hb with rfl | rfl | rfl
      · rw [if_pos rfl] at hr; omega
      · rw [if_neg (by decide), if_pos rfl] at hr; omega
      · rw [if_neg (by decide), if_neg (by decide)] at hr; omega

theorem num_be {n b : Int} (h : numErr n b = 0) : num (be n b) = n ∧ ((be n b).length : Int) = b ∧ sz b = true := by
  rcases numErr_ok h with ⟨rfl, h0, h1⟩ | ⟨rfl, h0, h1⟩ | ⟨rfl, h0, h1⟩
  · refine ⟨?_, rfl, rfl⟩
    simp only [be, if_true, num, List.foldl_cons, List.foldl_nil, byte_toNat n h0]
    omega
  · refine ⟨?_, rfl, rfl⟩
    simp only [be, if_true, num, List.foldl_cons, List.foldl_nil, byte_toNat n h0, byte_toNat (n / 256) (by omega), show (2 : Int) ≠ 1 from by decide, if_false]
    omega
  · refine ⟨?_, rfl, rfl⟩
    simp only [be, num, List.foldl_cons, List.foldl_nil, byte_toNat n h0, byte_toNat (n / 256) (by omega), byte_toNat (n / 65536) (by omega), byte_toNat (n / 16777216) (by omega), show (4 : Int) ≠ 1 from by decide, show (4 : Int) ≠ 2 from by decide, if_false]
    omega

/-- bytes as a text -/
def tx (l : List UInt8) : ByteArray := ⟨l.toArray⟩
theorem tx_size (l : List UInt8) : (tx l).size = l.length := by
  show l.toArray.size = _
  simp
theorem tx_list (l : List UInt8) : (tx l).data.toList = l := by simp [tx]
theorem tx_eta (s : ByteArray) : tx s.data.toList = s := by
  cases s; simp [tx]
theorem bytes_ext {a b : ByteArray} (h : a.data.toList = b.data.toList) : a = b := by
  rw [← tx_eta a, ← tx_eta b, h]
theorem tx_extract (l : List UInt8) (i j : Nat) : (tx l).extract i j = tx ((l.take j).drop i) := by
  apply bytes_ext
  rw [tx_list, ByteArray.data_extract, Array.toList_extract]
  simp [tx, List.drop_take]

theorem take_tx (a t : List UInt8) : rTake (tx (a ++ t), 0) a.length = (tx a, tx t, 0) := by
  unfold rTake
  rw [if_neg (by simp), if_neg (by omega), if_neg (by simp only [tx_size, List.length_append]; omega)]
  simp only [Int.toNat_natCast, tx_extract, tx_size]
  have e1 : List.drop 0 (List.take a.length (a ++ t)) = a := by simp
  have e2 : List.drop a.length (List.take (a ++ t).length (a ++ t)) = t := by rw [List.take_length]; simp
  rw [e1, e2]

theorem rnum_be {n b : Int} (h : numErr n b = 0) (t : List UInt8) : rNum (tx (be n b ++ t), 0) b = (n, tx t, 0) := by
  obtain ⟨h1, h2, h3⟩ := num_be h
  unfold rNum
  rw [if_neg (by simp [h3])]
  have e := take_tx (be n b) t
  rw [h2] at e
  rw [e]
  simp only [tx_list, h1]

theorem numErr_size (s : ByteArray) (h : s.size ≤ 65535) : numErr s.size 2 = 0 := by
  have hs : sz 2 = true := rfl
  unfold numErr
  rw [if_neg (by simp [hs]), if_neg (by simp; omega)]

theorem rtext_be (s : ByteArray) (h : s.size ≤ 65535) (t : List UInt8) : rText (tx (textBytes s ++ t), 0) 65535 = (s, tx t, 0) := by
  have e : tx (textBytes s ++ t) = tx (be s.size 2 ++ (s.data.toList ++ t)) := by unfold textBytes; rw [List.append_assoc]
  unfold rText
  rw [e, rnum_be (numErr_size s h)]
  simp only
  rw [if_neg (by omega)]
  have e2 := take_tx s.data.toList t
  have e3 : s.data.toList.length = s.size := by rw [Array.length_toList]; rfl
  rw [e3] at e2
  rw [e2, tx_eta]

section
variable (K N Z : Nat → Int) (S : Nat → ByteArray)
def wAct (st : List UInt8 × Int) (i : Nat) : List UInt8 × Int := if K i = 0 then wNum st (N i) (Z i) else wText st (S i)
def wAll : Nat → List UInt8 × Int
  | 0 => ([], 0)
  | k + 1 => wAct K N Z S (wAll k) k
def enc (i : Nat) : List UInt8 := if K i = 0 then be (N i) (Z i) else textBytes (S i)
def flat : Nat → List UInt8
  | 0 => []
  | k + 1 => flat k ++ enc K N Z S k
def okA (i : Nat) : Prop := if K i = 0 then numErr (N i) (Z i) = 0 else (S i).size ≤ 65535

theorem wAct_zero (st : List UInt8 × Int) (i : Nat) (h : (wAct K N Z S st i).2 = 0) : st.2 = 0 ∧ okA K N Z S i ∧ wAct K N Z S st i = (st.1 ++ enc K N Z S i, 0) := by
  unfold wAct at *
  unfold okA enc
  by_cases hk : K i = 0
  · rw [if_pos hk] at *
    rw [if_pos hk, if_pos hk]
    unfold wNum at *
    by_cases h1 : st.2 ≠ 0
    · rw [if_pos h1] at h; exact absurd h h1
    · rw [if_neg h1] at *
      by_cases h2 : numErr (N i) (Z i) ≠ 0
      · rw [if_pos h2] at h; exact absurd h h2
      · rw [if_neg h2]
        exact ⟨by simpa using h1, by simpa using h2, rfl⟩
  · rw [if_neg hk] at *
    rw [if_neg hk, if_neg hk]
    unfold wText at *
    by_cases h1 : st.2 ≠ 0
    · rw [if_pos h1] at h; exact absurd h h1
    · rw [if_neg h1] at *
      by_cases h2 : 65535 < (S i).size
      · rw [if_pos h2] at h; simp at h
      · rw [if_neg h2]
        exact ⟨by simpa using h1, by omega, rfl⟩

theorem wAll_ok : ∀ k, (wAll K N Z S k).2 = 0 → (wAll K N Z S k).1 = flat K N Z S k ∧ ∀ i, i < k → okA K N Z S i
  | 0, _ => ⟨rfl, fun i h => absurd h (Nat.not_lt_zero i)⟩
  | k + 1, h => by
    obtain ⟨h1, h2, h3⟩ := wAct_zero K N Z S (wAll K N Z S k) k h
    obtain ⟨h4, h5⟩ := wAll_ok k h1
    refine ⟨?_, fun i hi => ?_⟩
    · show (wAct K N Z S (wAll K N Z S k) k).1 = _
      rw [h3, h4]
      rfl
    · rcases Nat.lt_or_ge i k with hl | hl
      · exact h5 i hl
      · obtain rfl : i = k := by omega
        exact h2

theorem be_len (n b : Int) : (be n b).length ≤ 4 := by
  unfold be
  split
  · simp
  · split
    · simp
    · simp
theorem wAct_len (st : List UInt8 × Int) (i : Nat) : (wAct K N Z S st i).1.length ≤ st.1.length + 65537 := by
  unfold wAct
  split
  · unfold wNum
    split
    · omega
    · split
      · simp
      · have := be_len (N i) (Z i)
        simp only [List.length_append]; omega
  · unfold wText
    split
    · omega
    · split
      · simp
      · have e : (S i).data.toList.length = (S i).size := by rw [Array.length_toList]; rfl
        have := be_len (S i).size 2
        have e2 : (be (S i).size 2).length = 2 := rfl
        simp only [textBytes, List.length_append, e, e2]; omega
theorem wAll_len : ∀ k, (wAll K N Z S k).1.length ≤ k * 65537
  | 0 => by simp [wAll]
  | k + 1 => by
    have h1 := wAll_len k
    have h2 := wAct_len K N Z S (wAll K N Z S k) k
    show (wAct K N Z S (wAll K N Z S k) k).1.length ≤ _
    omega

theorem flat_split : ∀ {k m : Nat}, k ≤ m → ∃ t, flat K N Z S m = flat K N Z S k ++ t
  | k, 0, h => by
    obtain rfl : k = 0 := by omega
    exact ⟨[], by simp⟩
  | k, m + 1, h => by
    by_cases he : k = m + 1
    · subst he; exact ⟨[], by simp⟩
    · obtain ⟨t, ht⟩ := flat_split (show k ≤ m by omega)
      exact ⟨t ++ enc K N Z S m, by show flat K N Z S m ++ _ = _; rw [ht, List.append_assoc]⟩

/-- what is left behind k of m calls -/
def rest (m : Nat) (behind : List UInt8) (k : Nat) : List UInt8 := (flat K N Z S m ++ behind).drop (flat K N Z S k).length
theorem rest_zero (m : Nat) (behind : List UInt8) : rest K N Z S m behind 0 = flat K N Z S m ++ behind := rfl
theorem rest_end (m : Nat) (behind : List UInt8) : rest K N Z S m behind m = behind := by simp [rest]
theorem rest_step (m : Nat) (behind : List UInt8) (k : Nat) (h : k < m) : rest K N Z S m behind k = enc K N Z S k ++ rest K N Z S m behind (k + 1) := by
  obtain ⟨t, ht⟩ := flat_split K N Z S (show k + 1 ≤ m by omega)
  unfold rest
  rw [ht]
  show List.drop _ ((flat K N Z S k ++ enc K N Z S k ++ t) ++ behind) = _ ++ List.drop (flat K N Z S k ++ enc K N Z S k).length ((flat K N Z S k ++ enc K N Z S k ++ t) ++ behind)
  rw [List.append_assoc (flat K N Z S k ++ enc K N Z S k), List.drop_left]
  rw [List.append_assoc (flat K N Z S k), List.drop_left]
end
end Go.Proofs.Ytbloijnkkjmldaa.oct
