/-
  What numbers that were read may be.
  An id's first bytes, and zeros; an id's array byte by byte.
  Ids that were read have 32 bytes.
  Bytes appended to a slice of the call's own; a string out of it.
  Numbers and texts as bytes, by plain functions: what octet's calls do on plain lists. No function of any package is named here.
-/
import Derived.Test.YtpeneeddfgmjpaaGreatDoorOpp
import Derived.Test.YtpeneeddfgmjpaaGreatDoorIda
import Derived.Test.YtpeneeddfgmjpaaGreatDoorHdp
import Derived.Test.YtpeneeddfgmjpaaGreatDoorStepl
import Derived.Laws.IdiomStrings
import Derived.Laws.MakeOwn
import Derived.Lib.Strings
import Derived.Lib.BufferWrite
import Derived.Lib.UnsafeStr
import Derived.Lib.Walk
import Derived.Laws.BitsAllLaws
import Derived.Laws.BitsLemmas
import Derived.Laws.BytesArg
namespace Go.Proofs.YtpeneeddfgmjpaaGreatDoor.opn
open Go.RowKit

theorem rdN_nonneg (b : Nat) (st : St) : 0 ≤ (rdN b st).1 := num_nonneg _
theorem rd_len (n : Nat) (st : St) : (rd n st).1.length = 0 ∨ (rd n st).1.length = n := by
 unfold rd
 repeat' split
 ·
  exact .inl rfl
 ·
  exact .inl rfl
 ·
  right; rw [List.length_take]; omega
theorem rdN1_lt (st : St) : (rdN 1 st).1 < 256 := by
 show num (rd 1 st).1 < 256
 rcases rd_len 1 st with h | h
 ·
  rw [List.eq_nil_of_length_eq_zero h]; decide
 ·
  match (rd 1 st).1, h with
  | [b], _ =>
   have := b.toNat_lt
   simp only [num, List.foldl_cons, List.foldl_nil]; omega
theorem rdN4_lt (st : St) : (rdN 4 st).1 < 4294967296 := by
 show num (rd 4 st).1 < 4294967296
 rcases rd_len 4 st with h | h
 ·
  rw [List.eq_nil_of_length_eq_zero h]; decide
 ·
  match (rd 4 st).1, h with
  | [a, b, c, d], _ =>
   have := a.toNat_lt
   have := b.toNat_lt
   have := c.toNat_lt
   have := d.toNat_lt
   simp only [num, List.foldl_cons, List.foldl_nil]; omega
theorem rdN2_lt (st : St) : (rdN 2 st).1 < 65536 := by
 show num (rd 2 st).1 < 65536
 rcases rd_len 2 st with h | h
 ·
  rw [List.eq_nil_of_length_eq_zero h]; decide
 ·
  match (rd 2 st).1, h with
  | [a, b], _ =>
   have := a.toNat_lt
   have := b.toNat_lt
   simp only [num, List.foldl_cons, List.foldl_nil]; omega
end Go.Proofs.YtpeneeddfgmjpaaGreatDoor.opn

namespace Go.Proofs.YtpeneeddfgmjpaaGreatDoor.opn
open Go.RowKit Go.Proofs.YtpeneeddfgmjpaaGreatDoor.mem Go.Proofs.YtpeneeddfgmjpaaGreatDoor.sha Go.Proofs.YtpeneeddfgmjpaaGreatDoor.ids

/-- the first k bytes, and zeros -/
def xAcc (t : List UInt8) (k : Nat) : List UInt8 := t.take k ++ List.replicate (32 - k) 0
theorem xAcc_len (t : List UInt8) (k : Nat) (h : k ≤ t.length) (hk : k ≤ 32) : (xAcc t k).length = 32 := by
 unfold xAcc
 rw [List.length_append, List.length_take, List.length_replicate]; omega
theorem xAcc_set (t : List UInt8) (k : Nat) (h : k < t.length) (hk : k < 32) : (xAcc t k).set k (t.getD k 0) = xAcc t (k + 1) := by
 unfold xAcc
 have hl : (t.take k).length = k := by rw [List.length_take]; omega
 rw [List.set_append_right _ _ (by rw [hl]; exact Nat.le_refl _), hl, Nat.sub_self, show 32 - k = (32 - (k + 1)) + 1 by omega, List.replicate_succ, List.set_cons_zero, List.take_succ_eq_append_getElem h, List.append_assoc, List.getD_eq_getElem?_getD, List.getElem?_eq_getElem h]
 rfl
theorem byte_set {w : World} {S : Nat} {t : TypeId} {l : List UInt8} (h : Blk w S t (bv l).toArray) (j : Nat) (c : UInt8) : Blk (w.setCell ⟨S, j, none⟩ (.int .u8 (B c))) S t (bv (l.set j c)).toArray := by
 have := h.set_ j (.int .u8 (B c))
 rw [List.setIfInBounds_toArray] at this
 unfold bv at this ⊢
 rw [List.map_set]
 exact this
theorem zid_len : zid.length = 32 := by simp [zid]
theorem xAcc_zero (t : List UInt8) : xAcc t 0 = zid := rfl
theorem xAcc_end (t : List UInt8) (h : t.length = 0 ∨ t.length = 32) : xAcc t t.length = mkId t := by
 unfold mkId
 rcases h with h | h
 ·
  rw [List.eq_nil_of_length_eq_zero h, if_pos rfl]; rfl
 ·
  rw [if_neg (fun e => by rw [e] at h; simp at h)]
  unfold xAcc
  rw [h, Nat.sub_self, List.replicate_zero, List.append_nil, ← h, List.take_length]
end Go.Proofs.YtpeneeddfgmjpaaGreatDoor.opn

namespace Go.Proofs.YtpeneeddfgmjpaaGreatDoor.opn
open Go.RowKit Go.Proofs.YtpeneeddfgmjpaaGreatDoor.mem Go.Proofs.YtpeneeddfgmjpaaGreatDoor.sha Go.Proofs.YtpeneeddfgmjpaaGreatDoor.ids

theorem mkId_len (s : List UInt8) (h : s.length = 0 ∨ s.length = 32) : (mkId s).length = 32 := by
 unfold mkId
 rcases h with h | h
 ·
  rw [if_pos (List.eq_nil_of_length_eq_zero h)]; exact zid_len
 ·
  rw [if_neg (fun e => by rw [e] at h; simp at h)]; exact h
theorem rdI_len (st : St) : (rdI st).1.length = 32 := mkId_len _ (rd_len 32 st)
theorem rdL_ok : ∀ (n : Nat) (st : St), okIds (rdL n st).1
 | 0, _ => okIds.nil
 | n + 1, st => fun x hx => by
  rcases List.mem_cons.1 hx with rfl | h
  ·
   exact rdI_len st
  ·
   exact rdL_ok n _ x h
end Go.Proofs.YtpeneeddfgmjpaaGreatDoor.opn

namespace Go.Proofs.YtpeneeddfgmjpaaGreatDoor.mem
open Go.RowKit

/-- 'append(v, x..)': the new bytes lie in the block that the statement has just laid -/
theorem wp_append_new {ops : Array Oper} {rest : List Oper} {o : Oper} {a : Act} {Q : Exit → Act → World → Prop} (hgd : o.guard = none) (s x : Operand)
  (ho : o.op = .call { callee := .builtin .append, args := #[s, x], argTypes := #[42, 42] })
  (F : Nat → Prop) (w0 : World) (v : Value) (n : Nat) (xs : List Value) (hs : a.eval s = v) (hown : Owns w0 F v n xs) (news : List Value) (k : Nat)
  (hx : a.eval x = .slice (some ⟨w0.heap.size, 0, none⟩) k k) (hl : news.length = k * 1) (h1 : ∀ u ∈ news, u.oneCell' = true) (hlen : n + k ≤ 140737488355328) (hn : New F w0)
  (h : ∀ v' w', Owns w' F v' (n + k) (xs ++ news) → Turn F w0 w' → wpList Tryz.prog ops Q rest (a.put o.dst v') w') : wpList Tryz.prog ops Q (o :: rest) a (w0.alloc (.cells news.toArray 5)) := by
 obtain ⟨i0, hi, hz0, hz1, hz2⟩ := info_parts info5
 refine wpList_append_own_at (w0.alloc (.cells news.toArray 5)) hgd s x 42 ho 0 5 i0 (.int .u8 0) 1 1 Tryz.underlying42 hi hz0 hz1 hz2 rfl (by decide) v n xs hs (hown.1.alloc _) ⟨w0.heap.size, 0, none⟩ k k news hx hl
  (new_cells w0 5 news) h1 (by unfold maxLen; omega) (by omega) (Nat.zero_le _) ?_
 intro v' w' ho' hg _ hat
 refine h v' w' ⟨ho', fun b hb => ?_⟩ (((Turn.refl F w0).alloc hn _).trans (Turn.grown hg hown.2 (hn.alloc _)))
 rcases hat with e | e <;> rw [e] at hb
 ·
  exact hown.2 b hb
 ·
  injection hb with hb
  subst hb
  exact hn _ (by simp)

theorem string_at {w w' : World} {i : TypeInfo} (hi : Tryz.prog.info? 5 = some i) (hz : i.zero = some (.int .u8 0)) (hsize : i.size = 1) (hby : i.bytes = 1) {ty : TypeId}
  {v v' : Value} {n : Nat} {xs : List Value} (hown : w.ownsRow 0 5 1 v n xs) {s : ByteArray} (hbytes : n + s.size ≤ 140737488355328)
  (hr : (Builtin.append_ #[42, 9] ty #[v, .string s]).run Tryz.prog w = .ok v' w') (h4 : v' = .slice none 0 0 ↔ v = .slice none 0 0 ∧ s.size = 0) :
  v'.ownBlock = v.ownBlock ∨ v'.ownBlock = some w.heap.size := by
 have hxl : xs.length = n := by simpa using hown.1
 rcases hown.2 with ⟨rfl, rfl⟩ | ⟨g, cap, cur, rfl, hbg, hg, hnc, hcm, hcs, htake⟩
 ·
  by_cases hm : s.size = 0
  ·
   rw [h4.2 ⟨rfl, hm⟩]; exact .inl rfl
  ·
   have h2 := run_append_nil_string (P := Tryz.prog) w 42 9 ty 5 i (.int .u8 0) Tryz.underlying42 Tryz.underlying9 hi hz s (by omega) (by omega) (by rw [hby]; omega)
   rw [h2] at hr
   injection hr with hr _
   subst hr
   exact .inr rfl
 ·
  by_cases hroom : n + s.size ≤ cap
  ·
   have hcs' : cur.size = cap := by simpa using hcs
   have h2 := Lib.run_append_room_string (P := Tryz.prog) w 42 9 ty 5 i Tryz.underlying42 Tryz.underlying9 hi hsize g n cap cur hg s hroom (by omega)
   rw [h2] at hr
   injection hr with hr _
   subst hr
   exact .inl rfl
  ·
   have holds : ∀ j u, xs[j]? = some u → w.cell? ((⟨g, 0, none⟩ : Addr).add j) = some u := hown.cells (g := g) rfl
   have h2 := Lib.run_append_grow_string (P := Tryz.prog) w 42 9 ty 5 i (.int .u8 0) Tryz.underlying42 Tryz.underlying9 hi hz ⟨g, 0, none⟩ n cap xs (by rw [hsize]; simpa using hxl) holds s (by omega) (by omega) (by rw [hby]; exact growslice_fits (by omega) (by omega))
   rw [h2] at hr
   injection hr with hr _
   subst hr
   exact .inr rfl

/-- 'append(v, s...)', s a string -/
theorem wp_append_str {ops : Array Oper} {rest : List Oper} {o : Oper} {a : Act} {Q : Exit → Act → World → Prop} (hgd : o.guard = none) (sl x : Operand)
  (ho : o.op = .call { callee := .builtin .append, args := #[sl, x], argTypes := #[42, 9] })
  (F : Nat → Prop) (w0 : World) (v : Value) (n : Nat) (xs : List Value) (hs : a.eval sl = v) (hown : Owns w0 F v n xs) (s : ByteArray) (hx : a.eval x = .string s) (hlen : n + s.size ≤ 140737488355328) (hn : New F w0)
  (h : ∀ v' w', Owns w' F v' (n + s.size) (xs ++ Lib.strCells s) → Turn F w0 w' → wpList Tryz.prog ops Q rest (a.put o.dst v') w') : wpList Tryz.prog ops Q (o :: rest) a w0 := by
 obtain ⟨i, hi, hz, hsize, hby⟩ := info_parts info5
 refine wpList_plain hgd fun K hK => ?_
 obtain ⟨v', w', hr, h2, h3, h4⟩ := Lib.run_append_own_string (P := Tryz.prog) w0 0 42 9 o.type 5 i Tryz.underlying42 Tryz.underlying9 hi hz hsize hby v n xs hown.1 s (by unfold maxLen; omega) hlen (Nat.zero_le _)
 have hat := string_at hi hz hsize hby hown.1 hlen hr h4
 unfold Oper.wp execOp
 simp only [ho, resolve, invoke, builtin, Sem.run_bind, Sem.run_pure, Result.andThen_ok, List.map_toArray, List.map_cons, List.map_nil, hs, hx, hr]
 refine hK _ _ (h v' w' ⟨h2, fun b hb => ?_⟩ (Turn.grown h3 hown.2 hn))
 rcases hat with e | e <;> rw [e] at hb
 ·
  exact hown.2 b hb
 ·
  injection hb with hb
  subst hb
  exact hn _ (Nat.le_refl _)

def bCells (l : List UInt8) : List Value := l.map fun b => Value.int .u8 b.toNat
theorem bCells_append (a b : List UInt8) : bCells (a ++ b) = bCells a ++ bCells b := List.map_append
theorem strCells_eq (s : ByteArray) : Lib.strCells s = bCells s.data.toList := rfl

theorem Owns.string {w : World} {F : Nat → Prop} {v : Value} {out : List UInt8} (h : Owns w F v out.length (bCells out)) :
  (convert 42 9 v).run Tryz.prog w = .ok (.string ⟨out.toArray⟩) w := by
 rcases h.1.2 with ⟨rfl, h0⟩ | ⟨g', cap, cur, rfl, _, hh, _⟩
 ·
  have e : out = [] := List.eq_nil_of_length_eq_zero h0
  subst e
  exact run_convert_bytes_nil w 42 5 Tryz.underlying42 Tryz.underlying5 0 0 9 Tryz.underlying9
 ·
  refine run_convert_bytes_back w 42 9 5 ⟨g', 0, none⟩ cap out Tryz.underlying42 Tryz.underlying5 Tryz.underlying9 fun j hj => ?_
  exact h.1.cells (g := g') rfl j _ (by simp [bCells, List.getElem?_eq_getElem hj])

end Go.Proofs.YtpeneeddfgmjpaaGreatDoor.mem

namespace Go.Proofs.YtpeneeddfgmjpaaGreatDoor.oct
open Go.RowKit Go.Proofs.YtpeneeddfgmjpaaGreatDoor.mem

/-- is there a number of so many bytes? -/
def sz (n : Int) : Bool := n == 1 || (n == 2 || n == 4)

/-- the byte that a number's lowest eight bits are -/
def byte (x : Int) : UInt8 := UInt8.ofNat x.toNat
theorem byte_cell (x : Int) (h : 0 ≤ x) : Value.int .u8 (byte x).toNat = .int .u8 (x % 256) := by
 unfold byte
 have : (((UInt8.ofNat x.toNat).toNat : Nat) : Int) = x % 256 := by rw [UInt8.toNat_ofNat']; omega
 rw [this]
/-- a number's bytes, the highest first -/
def be (n b : Int) : List UInt8 := if b = 1 then [byte n] else if b = 2 then [byte (n / 256), byte n] else [byte (n / 16777216), byte (n / 65536), byte (n / 256), byte n]
theorem be1 (n : Int) (h0 : 0 ≤ n) : bCells (be n 1) = [.int .u8 (n % 256)] := by
 simp only [be, if_true, bCells, List.map_cons, List.map_nil, byte_cell n h0]
theorem be2 (n : Int) (h0 : 0 ≤ n) (h1 : n < 65536) : bCells (be n 2) = [.int .u8 (n / 256), .int .u8 (n % 256)] := by
 have e : n / 256 % 256 = n / 256 := by omega
 simp only [be, if_true, bCells, List.map_cons, List.map_nil, byte_cell n h0, byte_cell (n / 256) (by omega), e, show (2 : Int) ≠ 1 from by decide, if_false]
theorem be4 (n : Int) (h0 : 0 ≤ n) (h1 : n < 4294967296) : bCells (be n 4) = [.int .u8 (n / 16777216), .int .u8 (n / 65536 % 256), .int .u8 (n / 256 % 256), .int .u8 (n % 256)] := by
 have e : n / 16777216 % 256 = n / 16777216 := by omega
 simp only [be, bCells, List.map_cons, List.map_nil, byte_cell n h0, byte_cell (n / 256) (by omega), byte_cell (n / 65536) (by omega), byte_cell (n / 16777216) (by omega), e, show (4 : Int) ≠ 1 from by decide, show (4 : Int) ≠ 2 from by decide, if_false]

/-- the error with which a number is refused; 0: none -/
def numErr (n b : Int) : Int := if sz b = false then 1 else if n < 0 ∨ (if b = 1 then 256 else if b = 2 then 65536 else 4294967296) ≤ n then 5 else 0
def wNum (st : List UInt8 × Int) (n b : Int) : List UInt8 × Int := if st.2 ≠ 0 then st else if numErr n b ≠ 0 then ([], numErr n b) else (st.1 ++ be n b, 0)

def textBytes (s : ByteArray) : List UInt8 := be s.size 2 ++ s.data.toList

def wText (st : List UInt8 × Int) (s : ByteArray) : List UInt8 × Int := if st.2 ≠ 0 then st else if 65535 < s.size then ([], 3) else (st.1 ++ textBytes s, 0)
def wRaw (st : List UInt8 × Int) (s : ByteArray) : List UInt8 × Int := if st.2 ≠ 0 then st else (st.1 ++ s.data.toList, 0)
def wDone (st : List UInt8 × Int) : ByteArray × Int := if st.2 ≠ 0 then (⟨#[]⟩, st.2) else (⟨st.1.toArray⟩, 0)

/-- the number that some bytes are, the highest first -/
def num (l : List UInt8) : Int := l.foldl (fun (a : Int) b => a * 256 + b.toNat) 0

theorem u8_lt (b : UInt8) : (b.toNat : Int) < 256 := by have := b.toNat_lt; omega
theorem u8_ge (b : UInt8) : 0 ≤ (b.toNat : Int) := by omega

/-- the bytes that are left behind n, and what take answers -/
def rTake (st : ByteArray × Int) (n : Int) : ByteArray × (ByteArray × Int) :=
 if st.2 ≠ 0 then (⟨#[]⟩, st) else if n < 0 then (⟨#[]⟩, (⟨#[]⟩, 1)) else if (st.1.size : Int) < n then (⟨#[]⟩, (⟨#[]⟩, 2)) else (st.1.extract 0 n.toNat, (st.1.extract n.toNat st.1.size, 0))

def rNum (st : ByteArray × Int) (b : Int) : Int × (ByteArray × Int) :=
 if sz b = false then (0, if st.2 ≠ 0 then st else (⟨#[]⟩, 1)) else (num (rTake st b).1.data.toList, (rTake st b).2)
def rText (st : ByteArray × Int) (most : Int) : ByteArray × (ByteArray × Int) :=
 if most < (rNum st 2).1 then (⟨#[]⟩, if (rNum st 2).2.2 ≠ 0 then (rNum st 2).2 else (⟨#[]⟩, 3)) else rTake (rNum st 2).2 (rNum st 2).1

def rLeft (st : ByteArray × Int) : Int := if st.2 ≠ 0 then 0 else st.1.size
def rEnd (st : ByteArray × Int) : Int := if st.2 ≠ 0 then st.2 else if st.1.data.toList.isEmpty then 0 else 4
theorem byte_toNat (x : Int) (h : 0 ≤ x) : ((byte x).toNat : Int) = x % 256 := by
 unfold byte
 rw [UInt8.toNat_ofNat']; omega

theorem numErr_ok {n b : Int} (h : numErr n b = 0) : (b = 1 ∧ 0 ≤ n ∧ n < 256) ∨ (b = 2 ∧ 0 ≤ n ∧ n < 65536) ∨ (b = 4 ∧ 0 ≤ n ∧ n < 4294967296) := by
 unfold numErr at h
 by_cases hs : sz b = false
 ·
  rw [if_pos hs] at h; omega
 ·
  rw [if_neg hs] at h
  have hb : b = 1 ∨ b = 2 ∨ b = 4 := by simp [sz] at hs; omega
  by_cases hr : n < 0 ∨ (if b = 1 then 256 else if b = 2 then 65536 else 4294967296) ≤ n
  ·
   rw [if_pos hr] at h; omega
  ·
   rcases hb with rfl | rfl | rfl
   ·
    rw [if_pos rfl] at hr; omega
   ·
    rw [if_neg (by decide), if_pos rfl] at hr; omega
   ·
    rw [if_neg (by decide), if_neg (by decide)] at hr; omega

theorem num_be {n b : Int} (h : numErr n b = 0) : num (be n b) = n ∧ ((be n b).length : Int) = b ∧ sz b = true := by
 rcases numErr_ok h with ⟨rfl, h0, h1⟩ | ⟨rfl, h0, h1⟩ | ⟨rfl, h0, h1⟩
 ·
  refine ⟨?_, rfl, rfl⟩
  simp only [be, if_true, num, List.foldl_cons, List.foldl_nil, byte_toNat n h0]
  omega
 ·
  refine ⟨?_, rfl, rfl⟩
  simp only [be, if_true, num, List.foldl_cons, List.foldl_nil, byte_toNat n h0, byte_toNat (n / 256) (by omega), show (2 : Int) ≠ 1 from by decide, if_false]
  omega
 ·
  refine ⟨?_, rfl, rfl⟩
  simp only [be, num, List.foldl_cons, List.foldl_nil, byte_toNat n h0, byte_toNat (n / 256) (by omega), byte_toNat (n / 65536) (by omega), byte_toNat (n / 16777216) (by omega), show (4 : Int) ≠ 1 from by decide, show (4 : Int) ≠ 2 from by decide, if_false]
  omega

/-- bytes as a text -/
def tx (l : List UInt8) : ByteArray := ⟨l.toArray⟩
theorem tx_size (l : List UInt8) : (tx l).size = l.length := by
 show l.toArray.size = _
 simp
theorem tx_list (l : List UInt8) : (tx l).data.toList = l := by simp [tx]
theorem tx_eta (s : ByteArray) : tx s.data.toList = s := by
 cases s; simp [tx]
theorem bytes_ext {a b : ByteArray} (h : a.data.toList = b.data.toList) : a = b := by
 rw [← tx_eta a, ← tx_eta b, h]
theorem tx_extract (l : List UInt8) (i j : Nat) : (tx l).extract i j = tx ((l.take j).drop i) := by
 apply bytes_ext
 rw [tx_list, ByteArray.data_extract, Array.toList_extract]
 simp [tx, List.drop_take]
theorem numErr_size (s : ByteArray) (h : s.size ≤ 65535) : numErr s.size 2 = 0 := by
 have hs : sz 2 = true := rfl
 unfold numErr
 rw [if_neg (by simp [hs]), if_neg (by simp; omega)]
theorem be_len (n b : Int) : (be n b).length ≤ 4 := by
 unfold be
 split
 ·
  simp
 ·
  split
  ·
   simp
  ·
   simp
end Go.Proofs.YtpeneeddfgmjpaaGreatDoor.oct
