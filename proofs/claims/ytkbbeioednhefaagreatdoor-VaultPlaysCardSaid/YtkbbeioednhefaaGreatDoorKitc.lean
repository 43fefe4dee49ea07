/-
  petrellaw13's acts that came in, opened to their cells.
  An array of words that is listed as laid: what its places hold.
  What crc's functions answer: a table of 16 half bytes (crc.steps, block 0).
  What the listed variable gives the walks of crc; and that the program's own start lays it.
-/
import Derived.Test.YtkbbeioednhefaaGreatDoorStrs
import Derived.Test.YtkbbeioednhefaaGreatDoorOpentx
import Derived.Test.YtkbbeioednhefaaGreatDoorVfk
import Derived.Test.YtkbbeioednhefaaGreatDoorSha
import Derived.LaidMore
import Derived.Stop.Joined
import Derived.Test.YtkbbeioednhefaaGreatDoorRcr
namespace Go.Proofs.YtkbbeioednhefaaGreatDoor.kit
open Go.ChangeShapes Go.WideShapes Go.ChangeAt Go.RowKit Go.Deep Go.Proofs.YtkbbeioednhefaaGreatDoor.txl Go.Proofs.YtkbbeioednhefaaGreatDoor.strx

/-- a list of texts within a struct -/
theorem texts_of_trod {H : Type} {enc : TypeId × Value → H} {W : World} {n : Nat} {v : Value} {y : DataW H × List MemPlace}
    (h : DataW.trod enc Tryz.prog W 0 (fun _ => true) true n 33 [v] = some y) : ∃ L, TxA W (· < W.heap.size) v L ∧ L.length ≤ 9223372036854775807 := by
  rcases open_strings Tryz.underlying33 Tryz.underlying9 (by kernel_rfl) h with ⟨hcs, _⟩ | ⟨a, len, cap, ss, hcs, _, hl, hm, hz, hx, hcell, _⟩
  · injection hcs with h1 _
    subst h1
    exact ⟨[], TxA.nil _ _, Nat.zero_le _⟩
  · injection hcs with h1 _
    subst h1
    have hz' : ss.length = cap := by rw [hz]; simp
    have hlen : ((ss.take len).map fun s => s.data.toList).length = len := by rw [List.length_map, List.length_take]; omega
    refine ⟨(ss.take len).map fun s => s.data.toList, ⟨some a, cap, by rw [hlen], fun i hi => ?_⟩, by rw [hlen]; unfold maxLen at hm; omega⟩
    rw [hlen] at hi
    have hc0 := hcell i (by omega)
    obtain ⟨b, off, spot⟩ := a
    have hspot : spot = none := by
      have z0 := hcell 0 (by omega)
      simpa [Addr.add] using World.cell?_spot z0
    subst hspot
    rw [Addr.add_lit] at hc0
    refine ⟨b, off, rfl, World.block_lt_of_cell? W _ hc0, World.block_lt_of_cell? W _ hc0, ?_⟩
    rw [hc0, List.getD_eq_getElem?_getD, List.getD_eq_getElem?_getD, List.getElem?_map, List.getElem?_take_of_lt hi, List.getElem?_eq_getElem (by omega)]
    rfl
theorem cellsVact : Tryz.prog.cellsOf 35 = 4 := by kernel_rfl
set_option maxRecDepth 100000 in
theorem open_vacts {H : Type} {enc : TypeId × Value → H} {W : World} {base : Nat} {v : Value} {d : DataW H} {p : List MemPlace}
    (hv : Value.okWide Tryz.prog W .any base 22 v) (h : DataW.Trod enc Tryz.prog W 0 (fun _ => true) true 22 v d p) :
    ∃ (ad : Option Addr) (n cap : Nat) (K N : Nat → Int) (S : Nat → ByteArray) (lv : Nat → Value) (Ls : Nat → List (List UInt8)), v = .slice ad n cap ∧ n ≤ 9223372036854775807 ∧ vt.VActs W ad n K N S lv Ls := by
  obtain ⟨a0, len0, cap0, rfl⟩ := okWide_slice Tryz.underlying22 hv
  obtain ⟨fuel, hf⟩ := h
  rcases open_slice_fields Tryz.underlying22 Tryz.underlying35 (by kernel_rfl) (by rw [cellsVact]; rfl) hf with ⟨hcs, _⟩ | ⟨a, len, cap, m, D, Pl, hcs, _, hl, hm, hmm, hx, hi⟩
  · refine ⟨a0, len0, cap0, fun _ => 0, fun _ => 0, fun _ => ByteArray.empty, fun _ => undef, fun _ => [], rfl, ?_, ?_⟩
    · simp only [Value.cells] at hcs
      injection hcs with h1 _
      injection h1 with _ h2 _
      omega
    · simp only [Value.cells] at hcs
      injection hcs with h1 _
      injection h1 with _ h2 _
      intro i hi
      omega
  · simp only [Value.cells] at hcs
    injection hcs with h1 _
    injection h1 with h1 h2 h3
    subst h1 h2 h3
    have hm' : m = cap0 := by rw [hmm]; simp
    subst hm'
    have hsel : ∀ i, ∃ (q : Int × Int × ByteArray × Value × List (List UInt8)), i < len0 → W.cell? (a.add (i * 4)) = some (.int .i64 q.1) ∧ W.cell? (a.add (i * 4 + 1)) = some (.string q.2.2.1) ∧ W.cell? (a.add (i * 4 + 2)) = some q.2.2.2.1 ∧ W.cell? (a.add (i * 4 + 3)) = some (.int .i64 q.2.1) ∧
        TxA W (· < W.heap.size) q.2.2.2.1 q.2.2.2.2 ∧ q.2.2.2.2.length ≤ 9223372036854775807 := by
      intro i
      by_cases hil : i < len0
      case neg => exact ⟨(0, 0, ByteArray.empty, undef, []), fun h => absurd h hil⟩
      obtain ⟨ys, n, hD, _, hyl, hff⟩ := hi i (by omega)
      obtain ⟨v0, y0, hc0, hy0, ht0⟩ := hff 0 _ rfl
      obtain ⟨v1, y1, hc1, hy1, ht1⟩ := hff 1 _ rfl
      obtain ⟨v2, y2, hc2, hy2, ht2⟩ := hff 2 _ rfl
      obtain ⟨v3, y3, hc3, hy3, ht3⟩ := hff 3 _ rfl
      obtain ⟨x0, e0, _, _⟩ := DataW.trod_int Tryz.underlying3 ht0
      obtain ⟨x3, e3, _, _⟩ := DataW.trod_int Tryz.underlying3 ht3
      obtain ⟨s, e1, _, _⟩ := DataW.trod_string Tryz.underlying9 ht1
      obtain ⟨L, hL, hLl⟩ := texts_of_trod ht2
      simp only [List.cons.injEq, and_true] at e0 e1 e3
      subst e0 e1 e3
      exact ⟨(x0, x3, s, v2, L), fun _ => ⟨hc0, hc1, hc2, hc3, hL, hLl⟩⟩
    obtain ⟨Q, hQ⟩ := Classical.axiomOfChoice hsel
    refine ⟨some a, len0, m, fun i => (Q i).1, fun i => (Q i).2.1, fun i => (Q i).2.2.1, fun i => (Q i).2.2.2.1, fun i => (Q i).2.2.2.2, rfl, by unfold maxLen at hm; omega, ?_⟩
    intro i hil
    obtain ⟨g0, g1, g2, g3, g4, g5⟩ := hQ i hil
    obtain ⟨z0, _⟩ := hQ 0 (by omega)
    obtain ⟨b, off, spot⟩ := a
    have hspot : spot = none := by simpa [Addr.add] using World.cell?_spot z0
    subst hspot
    rw [Addr.add_lit] at g0 g1 g2 g3
    exact ⟨b, off, rfl, World.block_lt_of_cell? W _ g0, g0, g1, g2, g3, g4, g5⟩
end Go.Proofs.YtkbbeioednhefaaGreatDoor.kit

namespace Go.Proofs.YtkbbeioednhefaaGreatDoor.kit
open Go.ChangeShapes Go.WideShapes Go.ChangeAt Go.RowKit Go.Proofs.YtkbbeioednhefaaGreatDoor.sha

/-- what a number of 32 bits and one of 16 are -/
theorem word_of {a : Int} (h : Lit.wf (.int .u32 a)) : ∃ c : UInt32, a = U c := by
  have hb : 0 ≤ a ∧ a ≤ 4294967295 := by simpa [Lit.wf, IntKind.min, IntKind.max, IntKind.signed, IntKind.bits] using h
  refine ⟨UInt32.ofNat a.toNat, ?_⟩
  unfold U
  rw [UInt32.toNat_ofNat_of_lt' (by show a.toNat < 4294967296; omega)]
  omega
theorem words_of_trod {H : Type} {enc : TypeId × Value → H} {w : World} {base : Nat} {sp : Nat → Bool} {held : Bool} {fuel n : Nat} {t : TypeId} {p : List MemPlace} (L : List UInt32) (ht : Tryz.prog.underlying t = some (.array n 124)) (cs : List Value)
    (h : DataW.trod enc Tryz.prog w base sp held fuel t cs = some (.agg (L.map fun x => DataW.lit (.int .u32 (U x))), p)) (j : Nat) (hj : j < n) (hL : L.length = n) : cs[j]? = some (.int .u32 (U (L.getD j 0))) := by
  obtain ⟨xs, m1, rfl, hx1, hlen, hn, hel⟩ := DataW.trod_array ht h
  have c1 : Tryz.prog.cellsOf 124 = 1 := by kernel_rfl
  simp only [Prod.mk.injEq, DataW.agg.injEq] at hx1
  have hj2 := hel j hj
  rw [c1, Nat.mul_one] at hj2
  have hxj : xs[j]? = some (xs[j]'(by omega)) := List.getElem?_eq_getElem (by omega)
  rw [hxj] at hj2
  obtain ⟨k, e1, e2, _⟩ := DataW.trod_int Tryz.underlying124 hj2
  have hk : (xs.map (·.1))[j]? = some (.lit (.int .u32 k)) := by rw [List.getElem?_map, hxj]; simp [e2]
  have hLj : L[j]? = some (L[j]'(by rw [hL]; exact hj)) := List.getElem?_eq_getElem (by rw [hL]; exact hj)
  rw [← hx1.1, List.getElem?_map, hLj] at hk
  have hkU : U (L[j]'(by rw [hL]; exact hj)) = k := by simpa using hk
  rw [List.getD_eq_getElem?_getD, hLj, Option.getD_some, hkU]
  have := congrArg (fun l : List Value => l[0]?) e1
  simpa [List.getElem?_take, List.getElem?_drop] using this
end Go.Proofs.YtkbbeioednhefaaGreatDoor.kit

namespace Go.Proofs.YtkbbeioednhefaaGreatDoor.crc
open Go.RowKit Go.Proofs.YtkbbeioednhefaaGreatDoor.mem Go.Proofs.YtkbbeioednhefaaGreatDoor.sha

def stepsL : List UInt32 := [0x00000000, 0x1db71064, 0x3b6e20c8, 0x26d930ac, 0x76dc4190, 0x6b6b51f4, 0x4db26158, 0x5005713c, 0xedb88320, 0xf00f9344, 0xd6d6a3e8, 0xcb61b38c, 0x9b64c2b0, 0x86d3d2d4, 0xa00ae278, 0xbdbdf21c]
theorem stepsL_An : ∀ j : Fin 16, stepsL.getD j.val 0 = An 4 (UInt32.ofNat j.val) := by decide
/-- the table lies in block 0 -/
def Tab (w : World) : Prop := 1 ≤ w.heap.size ∧ ∀ j, j < 16 → w.cell? ⟨0, j, none⟩ = some (.int .u32 (U (stepsL.getD j 0)))
theorem Tab.next {w w' : World} (h : Tab w) (hb : Below w.heap.size w w') : Tab w' :=
  ⟨Nat.le_trans h.1 hb.size, fun j hj => (hb.cell (p := ⟨0, j, none⟩) (Nat.lt_of_lt_of_le (show 0 < 1 by decide) h.1)).trans (h.2 j hj)⟩

/-- four steps of a word with the four lowest bits of a byte -/
def halfC (w : UInt32) (b : UInt8) : UInt32 := w >>> 4 ^^^ An 4 ((w ^^^ b.toUInt32) &&& 15)
theorem xor_shr4 (x y : UInt32) : (x ^^^ y) >>> 4 = x >>> 4 ^^^ y >>> 4 := xor_shr x y 4
theorem byte_shr4 (x : UInt8) : (x >>> 4).toUInt32 = x.toUInt32 >>> 4 := by
  apply UInt32.toNat_inj.1
  rw [UInt8.toNat_toUInt32, UInt32.toNat_shiftRight, UInt8.toNat_shiftRight, UInt8.toNat_toUInt32]
  rfl
theorem byte_shr8 (x : UInt8) : x.toUInt32 >>> 4 >>> 4 = 0 := by
  apply UInt32.toNat_inj.1
  have := x.toNat_lt
  rw [UInt32.toNat_shiftRight, UInt32.toNat_shiftRight, UInt8.toNat_toUInt32]
  show x.toNat >>> (4 % 32) >>> (4 % 32) = 0
  rw [Nat.shiftRight_eq_div_pow, Nat.shiftRight_eq_div_pow]
  show x.toNat / 16 / 16 = 0
  omega
theorem halfC_An (w : UInt32) (b : UInt8) : halfC w b = An 4 (w ^^^ b.toUInt32) ^^^ b.toUInt32 >>> 4 := by
  unfold halfC
  rw [An4_split (w ^^^ b.toUInt32), xor_shr4, UInt32.xor_comm (w >>> 4), UInt32.xor_assoc, UInt32.xor_assoc, UInt32.xor_self, UInt32.xor_zero]
theorem halves (w : UInt32) (x : UInt8) : halfC (halfC w x) (x >>> 4) = stepC w x := by
  rw [halfC_An, halfC_An, byte_shr4, byte_shr8, UInt32.xor_zero, UInt32.xor_assoc, UInt32.xor_self, UInt32.xor_zero]
  exact (An_add 4 4 _).symm
theorem b8_xor (x y : UInt8) : bits .xor .u8 (B x) (B y) = B (x ^^^ y) := by
  unfold B; rw [u8_xor_nat _ _ x.toNat_lt y.toNat_lt, UInt8.toNat_xor]
theorem b8_and (x y : UInt8) : bits .and .u8 (B x) (B y) = B (x &&& y) := by
  unfold B; rw [u8_and_nat _ _ x.toNat_lt y.toNat_lt, UInt8.toNat_and]
theorem b8_and15 (x : UInt8) : bits .and .u8 (B x) 15 = B (x &&& 15) := by
  have h : (15 : Int) = B 15 := by decide
  rw [h, b8_and]
theorem U_wrap8 (w : UInt32) : IntKind.u8.wrap (U w) = B w.toUInt8 := by
  unfold U B
  rw [UInt32.toNat_toUInt8]
  simp [IntKind.wrap, IntKind.signed, IntKind.bits]
/-- the half byte's number -/
theorem nib (w : UInt32) (b : UInt8) : ∃ j : Nat, j < 16 ∧ B ((w.toUInt8 &&& 15) ^^^ (b &&& 15)) = (j : Int) ∧ stepsL.getD j 0 = An 4 ((w ^^^ b.toUInt32) &&& 15) := by
  have he : ((w.toUInt8 &&& 15) ^^^ (b &&& 15)).toNat = ((w ^^^ b.toUInt32) &&& 15).toNat := by
    rw [UInt8.toNat_xor, UInt8.toNat_and, UInt8.toNat_and, UInt32.toNat_and, UInt32.toNat_xor, UInt8.toNat_toUInt32, UInt32.toNat_toUInt8]
    show (w.toNat % 2 ^ 8 &&& 15) ^^^ (b.toNat &&& 15) = (w.toNat ^^^ b.toNat) &&& 15
    rw [Nat.and_xor_distrib_right]
    congr 1
    apply Nat.eq_of_testBit_eq
    intro i
    rw [Nat.testBit_and, Nat.testBit_and, Nat.testBit_mod_two_pow, show (15 : Nat) = 2 ^ 4 - 1 by rfl, Nat.testBit_two_pow_sub_one]
    by_cases hi : i < 4
    · rw [decide_eq_true hi, decide_eq_true (show i < 8 by omega), Bool.true_and]
    · rw [decide_eq_false hi, Bool.and_false, Bool.and_false]
  have hlt : ((w ^^^ b.toUInt32) &&& 15).toNat < 16 := by
    rw [UInt32.toNat_and]
    exact Nat.lt_succ_of_le Nat.and_le_right
  refine ⟨((w ^^^ b.toUInt32) &&& 15).toNat, hlt, ?_, ?_⟩
  · unfold B; rw [he]
  · have := stepsL_An ⟨_, hlt⟩
    rw [this]
    congr 1
    exact UInt32.ofNat_toNat

set_option maxHeartbeats 1000000 in
set_option maxRecDepth 100000 in
theorem half_any (x : UInt32) (b : UInt8) (w : World) (hT : Tab w) : Calls Tryz.prog 100 #[.int .u32 (U x), .int .u8 (B b)] w fun e w' => e = .returned (.int .u32 (U (halfC x b))) ∧ w = w' := by
  obtain ⟨j, hj, hB, hS⟩ := nib x b
  have hcell := hT.2 j hj
  rw [hS] at hcell
  have h4 : U x / (16 : Int) = U (x >>> 4) := U_shr 4 x 4 rfl
  have hx := U_xor
  have hw8 := U_wrap8
  have ha := b8_and15
  have hx8 := b8_xor
  have j0 : (0 : Int) ≤ (j : Int) := Int.natCast_nonneg _
  have j1 : (j : Int) < 16 := by omega
  clear hT hS hj
  go_enter Tryz.func100, Tryz.ntmps100
  go_wp2_with fail
  go_ret
  exact ⟨rfl, rfl⟩

set_option maxHeartbeats 1000000 in
set_option maxRecDepth 100000 in
theorem add_walk (c : UInt32) (s : ByteArray) (w : World) (hT : Tab w) (hs : s.size ≤ 549755813888) : Calls Tryz.prog 92 #[.int .u32 (U c), .string s] w fun e w' => e = .returned (.int .u32 (U (addC c s.data.toList))) ∧ w = w' := by
  have hn : ∀ a : UInt32, bits .xor .u32 IntKind.u32.max (U a) = U (~~~ a) := U_not
  have hq : ∀ x : UInt8, B x / (16 : Int) = B (x >>> 4) := fun x => by
    unfold B
    rw [UInt8.toNat_shiftRight]
    show (x.toNat : Int) / 16 = ((x.toNat >>> (4 % 8) : Nat) : Int)
    rw [Nat.shiftRight_eq_div_pow]
    rfl
  have HT := Lib.hid hT
  clear hT
  go_enter Tryz.func92, Tryz.ntmps92
  go_wp2_with fail
  go_loopw [5, 11] (fun v i wr => ∃ k : Nat, k ≤ s.size ∧ i = .int .i64 k ∧ v = .int .u32 (U (runC (~~~ c) (s.data.toList.take k))) ∧ wr = w) (fun _ i _ => s.size - (intOf i).toNat)
  case atStart => exact ⟨0, Nat.zero_le _, rfl, rfl, rfl⟩
  case round =>
    obtain ⟨k, hk, rfl, rfl, rfl⟩ := hrel
    obtain ⟨y, hy⟩ : ∃ y, y = runC (~~~ c) (s.data.toList.take k) := ⟨_, rfl⟩
    rw [← hy]
    have HY := Lib.hid hy
    clear hy
    have k0 : (0 : Int) ≤ (k : Int) := Int.natCast_nonneg _
    by_cases hlt : k < s.size
    · have k1 : (k : Int) < (s.size : Int) := by omega
      obtain ⟨x, hx1⟩ : ∃ x, x = s.data.toList.getD k 0 := ⟨_, rfl⟩
      have hidx := fun u : World => run_index_str s k hlt u
      rw [← hx1] at hidx
      have HN : Hid (runC (~~~ c) (s.data.toList.take (k + 1)) = halfC (halfC y x) (x >>> 4)) := Lib.hid (by
        rw [List.take_succ_eq_append_getElem (by rw [← size_list]; exact hlt), runC, List.foldl_append]
        rw [HY.out, hx1, List.getD_eq_getElem?_getD, List.getElem?_eq_getElem (by rw [← size_list]; exact hlt), halves]
        rfl)
      clear hx1
      go_wp2_with (go_at_call 100; with_reducible refine (half_any _ _ _ HT.out).mono ?_; rintro e w1 ⟨rfl, rfl⟩)
      exact ⟨⟨k + 1, hlt, by simp, by rw [HN.out], trivial⟩, by simp [intOf]; omega⟩
    · obtain rfl : k = s.size := by omega
      clear hlt hk
      go_wp2_with fail
      go_ret
      refine ⟨?_, rfl⟩
      rw [HY.out, List.take_of_length_le (by rw [← size_list]; exact Nat.le_refl _)]
      rfl

set_option maxHeartbeats 1000000 in
theorem sum_walk (s : ByteArray) (w : World) (hT : Tab w) (hs : s.size ≤ 549755813888) : Calls Tryz.prog 91 #[.string s] w fun e w' => e = .returned (.int .u32 (U (addC 0 s.data.toList))) ∧ w = w' := by
  have h0 := add_walk 0 s w hT hs
  rw [show U 0 = 0 from rfl] at h0
  have H := Lib.hid h0
  clear h0 hT
  go_enter Tryz.func91, Tryz.ntmps91
  go_wp2_with (go_at_call 92; refine (H.out).mono ?_; rintro e w1 ⟨rfl, rfl⟩)
  go_ret
  exact ⟨rfl, rfl⟩

end Go.Proofs.YtkbbeioednhefaaGreatDoor.crc

namespace Go.Proofs.YtkbbeioednhefaaGreatDoor.kit
open Go.ChangeShapes Go.WideShapes Go.ChangeAt Go.RowKit Go.Proofs.YtkbbeioednhefaaGreatDoor.sha

def listedC : List (String × DataW Unit) := [("petrel/crc.steps", Rows.laid_petrel_crc_steps)]
theorem gSteps : Tryz.prog.globalNamed "petrel/crc.steps" = some 0 := by kernel_rfl
theorem tSteps : (Tryz.prog.globals[0]?).map (·.type) = some 149 := by kernel_rfl
theorem door_metC (os : Os) (args : Array Value) : laidMetH Tryz.prog listedC ((World.doorLaid Tryz.prog 400 os).forCall (fun _ _ => 0) ⟨#[], args, []⟩).memory :=
  laidMetH_of_parts3 (fuel := 8) (laidMet_of_run' 8 (by kernel_rfl) (by kernel_rfl)) (by kernel_rfl) (by kernel_rfl)
theorem steps_of_laid {W : World} (h : laidMetH Tryz.prog listedC W) : crc.Tab W := by
  rw [MakeChecks.laidMetH_plain _ _ _ (by kernel_rfl)] at h
  obtain ⟨ps, ⟨g0, t0, cs0, f0, p0, q0, hg0, ht0, hv0, hd0, _, _⟩, _, _⟩ := h
  obtain rfl := Option.some.inj (gSteps.symm.trans hg0)
  obtain rfl := Option.some.inj (tSteps.symm.trans ht0)
  have k0 := words_of_trod crc.stepsL Tryz.underlying149 _ hd0
  have c0 : ∀ j, j < 16 → W.cell? ⟨0, j, none⟩ = some (.int .u32 (U (crc.stepsL.getD j 0))) := fun j hj => by
    rw [World.var?_cell hg0 hv0 j, ← k0 j hj rfl]
    simp
  exact ⟨block_lt_of_cell (c0 0 (by decide)), c0⟩
end Go.Proofs.YtkbbeioednhefaaGreatDoor.kit
