/-
  Cells that lie in a row from an address on.
  SHA-256 by plain functions: words, rounds, blocks, the ending; and how the model's numbers of 32 bits are these words.
-/
import Derived.Test.YtbhkegdohiekfaaDoorStepl
import Derived.Laws.IdiomStrings
import Derived.Laws.MakeOwn
import Derived.Laws.OwnMore
import Derived.Laws.CopyOwn
import Derived.Maps.AppendAt
import Derived.Test.YtbhkegdohiekfaaDoorMem
import Derived.Laws.BitsAllLaws
namespace Go.Proofs.YtbhkegdohiekfaaDoor.ids
open Go.RowKit Go.Proofs.YtbhkegdohiekfaaDoor.mem

/-- the cells xs lie from the address on -/
def Rd (w : World) (ad : Option Addr) (xs : List Value) : Prop :=
  xs = [] ∨ ∃ b off, ad = some ⟨b, off, none⟩ ∧ b < w.heap.size ∧ ∀ k v, xs[k]? = some v → w.cell? ⟨b, off + k, none⟩ = some v
theorem Rd.nil (w : World) (ad : Option Addr) : Rd w ad [] := .inl rfl
theorem Rd.turn {F : Nat → Prop} {w w' : World} {ad : Option Addr} {xs : List Value} (h : Rd w ad xs) (ht : Turn F w w') (hF : ∀ b off, ad = some ⟨b, off, none⟩ → b < w.heap.size → ¬ F b) : Rd w' ad xs := by
  rcases h with h | ⟨b, off, h, hb, hc⟩
  · exact .inl h
  · exact .inr ⟨b, off, h, Nat.lt_of_lt_of_le hb ht.size, fun k v hv => (ht.cell (hF b off h hb)).trans (hc k v hv)⟩
theorem Rd.below {w w' : World} {ad : Option Addr} {xs : List Value} (h : Rd w ad xs) {B : Nat} (hb : Below B w w') (hB : w.heap.size ≤ B) : Rd w' ad xs :=
  h.turn (Turn.ofBelow hb) fun b _ _ hlt => by omega
theorem Rd.drewN {w : World} {ad : Option Addr} {xs : List Value} (h : Rd w ad xs) (n : Nat) : Rd (w.drewN n) ad xs := h
/-- 'append' of a list, in a plain region -/
theorem step_append {P : Program} {ops : Array Oper} {rest : List Oper} {o : Oper} {a : Act} {w w' : World} {Q : Exit → Act → World → Prop} {s x : Operand} {t : TypeId} {vs vx v' : Value} (hg : o.guard = none)
    (ho : o.op = .call { callee := .builtin .append, args := #[s, x], argTypes := #[t, t] }) (hs : a.eval s = vs) (hx : a.eval x = vx)
    (hr : (Builtin.append_ #[t, t] o.type #[vs, vx]).run P w = .ok v' w') (h : wpList P ops Q rest (a.put o.dst v') w') : wpList P ops Q (o :: rest) a w := by
  refine wpList_plain hg fun K hK => ?_
  unfold Oper.wp
  simp [execOp, ho, resolve, invoke, builtin, hs, hx, hr, Result.andThen]
  exact hK _ _ h
/-- a piece of a list, in a plain region -/
theorem step_slice {P : Program} {ops : Array Oper} {rest : List Oper} {o : Oper} {a : Act} {w : World} {Q : Exit → Act → World → Prop} {t : TypeId} {x : Operand} {lo hi : Option Operand} {vx v : Value} {vlo vhi : Option Value} (hg : o.guard = none)
    (ho : o.op = .slice t x lo hi none) (hx : a.eval x = vx) (hlo : lo.map a.eval = vlo) (hhi : hi.map a.eval = vhi) (hr : (Instr.sliceAt t vx vlo vhi none).run P w = .ok v w) (h : wpList P ops Q rest (a.put o.dst v) w) : wpList P ops Q (o :: rest) a w := by
  refine wpList_plain hg fun K hK => ?_
  unfold Oper.wp execOp
  simp only [ho, hx, hlo, hhi, Option.map_none, Sem.run_bind, hr, Result.andThen_ok, Sem.run_pure]
  exact hK _ _ h
theorem want_append {P : Program} {ops : Array Oper} {o : Oper} {a : Act} {w w' : World} {K : Act → World → Prop} {Q : Exit → Act → World → Prop} {E : Prop} {s x : Operand} {t : TypeId} {vs vx v' : Value} (hg : o.guard = none)
    (ho : o.op = .call { callee := .builtin .append, args := #[s, x], argTypes := #[t, t] }) (hs : a.eval s = vs) (hx : a.eval x = vx)
    (hr : (Builtin.append_ #[t, t] o.type #[vs, vx]).run P w = .ok v' w') (hK : K (a.put o.dst v') w') : if Region.wanted o (yielded ops a.tmps) = true then Oper.wp P o a w K Q else E := by
  have hw : Region.wanted o (yielded ops a.tmps) = true := by simp [Region.wanted, hg]
  rw [if_pos hw]
  unfold Oper.wp
  simp [execOp, ho, resolve, invoke, builtin, hs, hx, hr, Result.andThen]
  exact hK
end Go.Proofs.YtbhkegdohiekfaaDoor.ids

namespace Go.Proofs.YtbhkegdohiekfaaDoor.sha

structure W8 where
  (a b c d e f g h : UInt32)
deriving DecidableEq
def rr (n m : UInt32) (x : UInt32) : UInt32 := x >>> n ||| x <<< m
def firstL : List UInt32 := [1779033703, 3144134277, 1013904242, 2773480762, 1359893119, 2600822924, 528734635, 1541459225]
def kL : List UInt32 := [1116352408, 1899447441, 3049323471, 3921009573, 961987163, 1508970993, 2453635748, 2870763221, 3624381080, 310598401, 607225278, 1426881987, 1925078388, 2162078206, 2614888103, 3248222580, 3835390401, 4022224774, 264347078, 604807628, 770255983, 1249150122, 1555081692, 1996064986, 2554220882, 2821834349, 2952996808, 3210313671, 3336571891, 3584528711, 113926993, 338241895, 666307205, 773529912, 1294757372, 1396182291, 1695183700, 1986661051, 2177026350, 2456956037, 2730485921, 2820302411, 3259730800, 3345764771, 3516065817, 3600352804, 4094571909, 275423344, 430227734, 506948616, 659060556, 883997877, 958139571, 1322822218, 1537002063, 1747873779, 1955562222, 2024104815, 2227730452, 2361852424, 2428436474, 2756734187, 3204031479, 3329325298]
def kk (i : Nat) : UInt32 := kL.getD i 0
def sig0 (x : UInt32) : UInt32 := rr 7 25 x ^^^ rr 18 14 x ^^^ x >>> 3
def sig1 (x : UInt32) : UInt32 := rr 17 15 x ^^^ rr 19 13 x ^^^ x >>> 10
/-- the next word behind those that p is -/
def nw (p : List UInt32) : UInt32 := p.getD (p.length - 16) 0 + sig0 (p.getD (p.length - 15) 0) + p.getD (p.length - 7) 0 + sig1 (p.getD (p.length - 2) 0)
/-- the first i words of a block whose sixteen words are m -/
def wl (m : Nat → UInt32) : Nat → List UInt32
  | 0 => []
  | i + 1 => wl m i ++ [if i < 16 then m i else nw (wl m i)]
def rnd (s : W8) (k w : UInt32) : W8 :=
  let t := s.h + (rr 6 26 s.e ^^^ rr 11 21 s.e ^^^ rr 25 7 s.e) + (s.e &&& s.f ^^^ ~~~s.e &&& s.g) + k + w
  let u := (rr 2 30 s.a ^^^ rr 13 19 s.a ^^^ rr 22 10 s.a) + (s.a &&& s.b ^^^ s.a &&& s.c ^^^ s.b &&& s.c)
  ⟨t + u, s.a, s.b, s.c, s.d + t, s.e, s.f, s.g⟩
/-- i rounds -/
def rn (w : Nat → UInt32) (s : W8) : Nat → W8
  | 0 => s
  | i + 1 => rnd (rn w s i) (kk i) (w i)
def addW (x y : W8) : W8 := ⟨x.a + y.a, x.b + y.b, x.c + y.c, x.d + y.d, x.e + y.e, x.f + y.f, x.g + y.g, x.h + y.h⟩
def word (a b c d : UInt8) : UInt32 := a.toUInt32 <<< 24 ||| b.toUInt32 <<< 16 ||| c.toUInt32 <<< 8 ||| d.toUInt32
/-- the sixteen words of a block of bytes -/
def ms (b : List UInt8) (i : Nat) : UInt32 := word (b.getD (4 * i) 0) (b.getD (4 * i + 1) 0) (b.getD (4 * i + 2) 0) (b.getD (4 * i + 3) 0)
def sched (b : List UInt8) : List UInt32 := wl (ms b) 64
def turn (h : W8) (w : List UInt32) : W8 := addW h (rn (fun i => w.getD i 0) h 64)
def blk (h : W8) (b : List UInt8) : W8 := turn h (sched b)
def iv : W8 := ⟨0x6a09e667, 0xbb67ae85, 0x3c6ef372, 0xa54ff53a, 0x510e527f, 0x9b05688c, 0x1f83d9ab, 0x5be0cd19⟩
/-- the words behind the first n blocks of l -/
def fb (l : List UInt8) : Nat → W8
  | 0 => iv
  | n + 1 => blk (fb l n) ((l.drop (64 * n)).take 64)
def wList (s : W8) : List UInt32 := [s.a, s.b, s.c, s.d, s.e, s.f, s.g, s.h]
def be32 (x : UInt32) : List UInt8 := [(x >>> 24).toUInt8, (x >>> 16).toUInt8, (x >>> 8).toUInt8, x.toUInt8]
def idb (s : W8) : List UInt8 := be32 s.a ++ be32 s.b ++ be32 s.c ++ be32 s.d ++ be32 s.e ++ be32 s.f ++ be32 s.g ++ be32 s.h
def be64 (n : Nat) : List UInt8 := [UInt8.ofNat (n / 2 ^ 56), UInt8.ofNat (n / 2 ^ 48), UInt8.ofNat (n / 2 ^ 40), UInt8.ofNat (n / 2 ^ 32), UInt8.ofNat (n / 2 ^ 24), UInt8.ofNat (n / 2 ^ 16), UInt8.ofNat (n / 2 ^ 8), UInt8.ofNat n]
/-- what stands behind n bytes -/
def ending (n : Nat) : List UInt8 := 128 :: List.replicate ((119 - n % 64) % 64) 0 ++ be64 (8 * n)
def digest (l : List UInt8) : List UInt8 := idb (fb (l ++ ending l.length) ((l ++ ending l.length).length / 64))

theorem digest_abc : digest [97, 98, 99] = [186, 120, 22, 191, 143, 1, 207, 234, 65, 65, 64, 222, 93, 174, 34, 35, 176, 3, 97, 163, 150, 23, 122, 156, 180, 16, 255, 97, 242, 0, 21, 173] := by decide +kernel
theorem digest_nil : digest [] = [227, 176, 196, 66, 152, 252, 28, 20, 154, 251, 244, 200, 153, 111, 185, 36, 39, 174, 65, 228, 100, 155, 147, 76, 164, 149, 153, 27, 120, 82, 184, 85] := by decide +kernel

/-! The model's numbers. -/
def U (x : UInt32) : Int := (x.toNat : Int)
def u32 (x : UInt32) : Value := .int .u32 (U x)
theorem U_nonneg (x : UInt32) : 0 ≤ U x := Int.natCast_nonneg _
theorem U_lt (x : UInt32) : U x < 4294967296 := by have := x.toNat_lt; unfold U; omega
theorem U_xor (a b : UInt32) : bits .xor .u32 (U a) (U b) = U (a ^^^ b) := by
  unfold U; rw [u32_xor_nat _ _ a.toNat_lt b.toNat_lt, UInt32.toNat_xor]
theorem U_and (a b : UInt32) : bits .and .u32 (U a) (U b) = U (a &&& b) := by
  unfold U; rw [u32_and_nat _ _ a.toNat_lt b.toNat_lt, UInt32.toNat_and]
theorem U_or (a b : UInt32) : bits .or .u32 (U a) (U b) = U (a ||| b) := by
  unfold U; rw [u32_or_nat _ _ a.toNat_lt b.toNat_lt, UInt32.toNat_or]
theorem U_not (a : UInt32) : bits .xor .u32 4294967295 (U a) = U (~~~a) := by
  have h : (4294967295 : Int) = U 0xffffffff := by decide
  rw [h, U_xor]
  congr 1
theorem U_add (a b : UInt32) : (U a + U b) % 4294967296 = U (a + b) := by
  unfold U; rw [UInt32.toNat_add]; omega
theorem U_add' (a b : UInt32) : IntKind.u32.wrap (U a + U b) = U (a + b) := by
  rw [IntKind.wrap_u32', U_add]
theorem U_shr (n : UInt32) (a : UInt32) (m : Nat) (hm : n.toNat = m) (hn : m < 32 := by decide) : U a / ((2 ^ m : Nat) : Int) = U (a >>> n) := by
  unfold U
  rw [UInt32.toNat_shiftRight, hm, Nat.mod_eq_of_lt hn, Nat.shiftRight_eq_div_pow]
  rfl
theorem U_shl (n : UInt32) (a : UInt32) (m : Nat) (hm : n.toNat = m) (hn : m < 32 := by decide) : U a * ((2 ^ m : Nat) : Int) % 4294967296 = U (a <<< n) := by
  unfold U
  rw [UInt32.toNat_shiftLeft, hm, Nat.mod_eq_of_lt hn, Nat.shiftLeft_eq]
  rfl
/-! The model's bytes, and rows of words and bytes. -/
def B (x : UInt8) : Int := (x.toNat : Int)
theorem B_nonneg (x : UInt8) : 0 ≤ B x := Int.natCast_nonneg _
theorem B_lt (x : UInt8) : B x < 256 := by have := x.toNat_lt; unfold B; omega
theorem B_word (x : UInt8) : B x = U x.toUInt32 := by unfold B U; rw [UInt8.toNat_toUInt32]
theorem B_wrap (x : UInt8) : IntKind.u32.wrap (B x) = U x.toUInt32 := by
  rw [IntKind.wrap_u32', ← B_word]; have := B_nonneg x; have := B_lt x; omega
theorem B_mod (x : UInt8) : B x % 4294967296 = U x.toUInt32 := by
  rw [← B_word]; have := B_nonneg x; have := B_lt x; omega
def uv (l : List UInt32) : List Value := l.map fun x => Value.int .u32 (U x)
def bv (l : List UInt8) : List Value := l.map fun x => Value.int .u8 (B x)
theorem uv_length (l : List UInt32) : (uv l).length = l.length := List.length_map ..
theorem bv_length (l : List UInt8) : (bv l).length = l.length := List.length_map ..
theorem uv_append (a b : List UInt32) : uv (a ++ b) = uv a ++ uv b := List.map_append
theorem bv_append (a b : List UInt8) : bv (a ++ b) = bv a ++ bv b := List.map_append
theorem uv_get (l : List UInt32) (i : Nat) (h : i < l.length) : (uv l)[i]? = some (.int .u32 (U (l.getD i 0))) := by
  unfold uv
  rw [List.getElem?_map, List.getElem?_eq_getElem h, List.getD_eq_getElem?_getD, List.getElem?_eq_getElem h]
  rfl
theorem bv_get (l : List UInt8) (i : Nat) (h : i < l.length) : (bv l)[i]? = some (.int .u8 (B (l.getD i 0))) := by
  unfold bv
  rw [List.getElem?_map, List.getElem?_eq_getElem h, List.getD_eq_getElem?_getD, List.getElem?_eq_getElem h]
  rfl
theorem one_uv (l : List UInt32) : (uv l).toArray.all (·.oneCell') = true := by
  rw [List.all_toArray]
  simp only [List.all_eq_true, uv, List.mem_map]
  rintro _ ⟨x, _, rfl⟩
  rfl
theorem one_bv (l : List UInt8) : (bv l).toArray.all (·.oneCell') = true := by
  rw [List.all_toArray]
  simp only [List.all_eq_true, bv, List.mem_map]
  rintro _ ⟨x, _, rfl⟩
  rfl
theorem wl_length (m : Nat → UInt32) : ∀ i, (wl m i).length = i
  | 0 => rfl
  | i + 1 => by simp only [wl, List.length_append, List.length_cons, List.length_nil, wl_length m i]
/-- the row of 64 words behind the first i of them -/
def wrow (m : Nat → UInt32) (i : Nat) : List UInt32 := wl m i ++ List.replicate (64 - i) 0
theorem wrow_length (m : Nat → UInt32) (i : Nat) (h : i ≤ 64) : (wrow m i).length = 64 := by
  simp only [wrow, List.length_append, wl_length, List.length_replicate]; omega
theorem wrow_get (m : Nat → UInt32) (i j : Nat) (h : j < i) : (wrow m i).getD j 0 = (wl m i).getD j 0 := by
  unfold wrow
  rw [List.getD_eq_getElem?_getD, List.getD_eq_getElem?_getD, List.getElem?_append_left (by rw [wl_length]; exact h)]
theorem wrow_set (m : Nat → UInt32) (i : Nat) (h : i < 64) : (uv (wrow m i)).set i (.int .u32 (U (if i < 16 then m i else nw (wl m i)))) = uv (wrow m (i + 1)) := by
  have e : 64 - i = (64 - (i + 1)) + 1 := by omega
  have hl : (uv (wl m i)).length = i := by rw [uv_length, wl_length]
  unfold wrow
  rw [uv_append, uv_append, e, List.replicate_succ, List.set_append_right _ _ (by omega), hl, Nat.sub_self]
  simp only [wl, uv_append, List.append_assoc]
  rfl
theorem wrow_last (m : Nat → UInt32) : wrow m 64 = wl m 64 := by simp [wrow]
theorem wrow_zero (m : Nat → UInt32) : wrow m 0 = List.replicate 64 0 := rfl
theorem or_comm32 (a b : UInt32) : a ||| b = b ||| a := UInt32.or_comm a b
end Go.Proofs.YtbhkegdohiekfaaDoor.sha
