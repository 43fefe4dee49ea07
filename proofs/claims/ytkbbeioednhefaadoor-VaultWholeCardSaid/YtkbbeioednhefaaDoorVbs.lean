/-
  A snapshot's file behind its first texts, plainly.
  The landed vault: snapshot.
-/
import Derived.Test.YtkbbeioednhefaaDoorVtp
import Derived.Test.YtkbbeioednhefaaDoorVbo
import Derived.WalkLawsBesides
namespace Go.Proofs.YtkbbeioednhefaaDoor.vt
open Go.Proofs.YtkbbeioednhefaaDoor.rcd Go.Proofs.YtkbbeioednhefaaDoor.jn

theorem appJ_grow (j : Jr) (r : Rc) : (appJ j r).1.s.length ≤ j.s.length + 9 + r.body.length ∧ (appJ j r).1.l.length ≤ j.l.length + 1 := by
  unfold appJ
  split
  · exact ⟨by show j.s.length ≤ _; omega, by show j.l.length ≤ _; omega⟩
  · refine ⟨?_, ?_⟩
    · show (j.s ++ enR r).length ≤ _
      rw [List.length_append, enR_len]; omega
    · show (j.l ++ [r]).length ≤ _
      rw [List.length_append, List.length_singleton]; omega
/-- a snapshot's file behind its first i texts -/
def jat (no : Int) (L : List (List UInt8)) (i : Nat) : Jr := (L.take i).foldl (fun j s => (appJ j (entR s)).1) (appJ j0 (genR (no + 1))).1
theorem jat_succ (no : Int) (L : List (List UInt8)) (i : Nat) (h : i < L.length) : jat no L (i + 1) = (appJ (jat no L i) (entR (L.getD i []))).1 := by
  unfold jat
  rw [List.take_succ_eq_append_getElem h, List.foldl_append, List.getD_eq_getElem?_getD, List.getElem?_eq_getElem h]
  rfl
theorem jat_all (no : Int) (L : List (List UInt8)) : layJ no L = (appJ (jat no L L.length) sealR).1 := by
  unfold layJ jat
  rw [List.take_length]
theorem jat_size (no : Int) (L : List (List UInt8)) (hL : ∀ s ∈ L, s.length ≤ 300) : ∀ i, i ≤ L.length → (jat no L i).s.length ≤ 20 + 309 * i ∧ (jat no L i).l.length ≤ 1 + i
  | 0, _ => by
    have := appJ_grow j0 (genR (no + 1))
    have hb : (genR (no + 1)).body.length = 4 := opn.b4_len _
    have h0 : j0.s.length = 0 := rfl
    have h1 : j0.l.length = 0 := rfl
    show (appJ j0 (genR (no + 1))).1.s.length ≤ _ ∧ (appJ j0 (genR (no + 1))).1.l.length ≤ _
    omega
  | i + 1, h => by
    have ih := jat_size no L hL i (by omega)
    rw [jat_succ no L i (by omega)]
    have := appJ_grow (jat no L i) (entR (L.getD i []))
    have hb : (entR (L.getD i [])).body.length ≤ 300 := by
      refine hL _ ?_
      show L.getD i [] ∈ L
      rw [List.getD_eq_getElem?_getD, List.getElem?_eq_getElem (by omega)]
      exact List.getElem_mem _
    omega
end Go.Proofs.YtkbbeioednhefaaDoor.vt

namespace Go.Proofs.YtkbbeioednhefaaDoor.vt
open Go.RowKit Go.Proofs.YtkbbeioednhefaaDoor.mem Go.Proofs.YtkbbeioednhefaaDoor.sha Go.Proofs.YtkbbeioednhefaaDoor.strx Go.Proofs.YtkbbeioednhefaaDoor.rows Go.Proofs.YtkbbeioednhefaaDoor.ids Go.Proofs.YtkbbeioednhefaaDoor.rcd Go.Proofs.YtkbbeioednhefaaDoor.jn Go.Proofs.YtkbbeioednhefaaDoor.txl
open Go.Proofs.YtkbbeioednhefaaDoor.opn (b4 wnum4_s WrIs.new)

/-- the snapshot that is being laid, in blocks new since w0 -/
structure SJ (w0 : World) (p b : Value) (j : Jr) (u : World) : Prop where
  t : crc.Tab u
  j : JnL (w0.heap.size ≤ ·) u p b j
  below : Below w0.heap.size w0 u
theorem SJ.new {w0 u : World} {p b : Value} {j : Jr} (h : SJ w0 p b j u) : New (w0.heap.size ≤ ·) u := fun _ hk => Nat.le_trans h.below.size hk
theorem SJ.next {w0 u u' : World} {p b : Value} {j : Jr} (h : SJ w0 p b j u) (hb : Below u.heap.size u u') : SJ w0 p b j u' :=
  ⟨jn_is.next h.t hb, jn_is.turn h.j (Turn.ofBelow hb) fun _ hk _ => Nat.not_le.2 hk, h.below.trans (hb.mono h.below.size)⟩
theorem SJ.op {w0 u u' : World} {p b : Value} {j j' : Jr} (hT : crc.Tab w0) (h : SJ w0 p b j u) (hj : JnL (w0.heap.size ≤ ·) u' p b j') (ht : Turn (w0.heap.size ≤ ·) u u') : SJ w0 p b j' u' := by
  have hB := h.below.trans (ht.below (B := w0.heap.size) fun _ h => h)
  exact ⟨jn_is.next hT hB, hj, hB⟩
theorem snap_write {w0 u : World} {p b : Value} {j : Jr} (hT : crc.Tab w0) (h : SJ w0 p b j u) (k : Int) (t : ByteArray) (hs : j.s.length ≤ 100000) (hc : checkR ⟨k, t.data.toList⟩ = 0) (ht : t.size ≤ 300) :
    Calls Tryd.prog 70 #[p, .agg #[.int .i64 k, .string t]] u fun e w' => e = .returned (.tuple #[]) ∧ SJ w0 p b (appJ j ⟨k, t.data.toList⟩).1 w' :=
  (vwrite_any (w0.heap.size ≤ ·) p b j k t u h.t h.new h.j hs hc ht).mono fun e w' ⟨he, hj, ht⟩ => ⟨he, h.op hT hj ht⟩
set_option maxHeartbeats 8000000 in
set_option maxRecDepth 100000 in
theorem vsnapshot_any (no : Int) (h0 : 0 ≤ no + 1) (h1 : no + 1 ≤ 2147483647) (N : Nat → Prop) (lv : Value) (L : List (List UInt8)) (w : World) (hT : crc.Tab w) (hl : TxA w N lv L) (hL : smallL L) :
    Calls Tryd.prog 49 #[.int .i64 (no + 1), lv] w fun e w' => ∃ p b, e = .returned p ∧ JnL (w.heap.size ≤ ·) w' p b (layJ no L) ∧ Below w.heap.size w w' := by
  obtain ⟨n, hnn⟩ : ∃ n, n = L.length := ⟨_, rfl⟩
  obtain ⟨ad, cap, rfl, hC⟩ := hl
  have HC := Lib.hid hC
  have HNN := Lib.hid hnn
  have HL := Lib.hid hL
  rw [← hnn]
  have hn30 : n ≤ 30 := by rw [hnn]; exact hL.1
  obtain ⟨q, hq⟩ : ∃ q, q = no + 1 := ⟨_, rfl⟩
  have HQ := Lib.hid hq
  rw [← hq] at h0 h1 ⊢
  have hq1 : ¬ q > 2147483647 := by omega
  have hq2 : ¬ 2147483647 < q := by omega
  have HT := Lib.hid hT
  have HNW := Lib.hid fun u => oct.new_any u
  have HNM := Lib.hid fun u (hb : Below w.heap.size w u) (h : oct.WBlk u w.heap.size (.slice none 0 0) 0) => wnum4_s (w.heap.size ≤ ·) w.heap.size [] q h0 (by omega) u (WrIs.new h (Nat.le_refl _)) (fun k hk => Nat.le_trans hb.size hk) (by decide)
  simp only [List.nil_append] at HNM
  have HDN := Lib.hid fun u (h : oct.WrIs u (w.heap.size ≤ ·) w.heap.size (b4 q) 0) => oct.done_any _ _ _ _ u h
  obtain ⟨tb, htb⟩ : ∃ t, t = oct.tx (b4 q) := ⟨_, rfl⟩
  rw [show oct.wDone (b4 q, 0) = (tb, 0) by rw [htb]; rfl] at HDN
  have htl : tb.data.toList = b4 q := by rw [htb, oct.tx_list]
  have hts : tb.size = 4 := by rw [htb, oct.tx_size, opn.b4_len]
  have HOP := Lib.hid fun u (hb : Below w.heap.size w u) => vopen_any ⟨#[]⟩ (by decide) u (jn_is.next hT hb)
  rw [show openJ (⟨#[]⟩ : ByteArray).data.toList = j0 from rfl] at HOP
  have HW1 := Lib.hid fun u p b (h : SJ w p b j0 u) => snap_write hT h 1 tb (by decide) (by rw [htl]; exact checkR_gen q) (by omega)
  rw [htl] at HW1
  rw [show (appJ j0 ⟨1, b4 q⟩).1 = jat no L 0 by rw [hq]; rfl] at HW1
  have HW2 := Lib.hid fun u p b i t (h : SJ w p b (jat no L i) u) (hi : i < n) (ht : t = bt (L.getD i [])) => (show Calls Tryd.prog 70 #[p, .agg #[.int .i64 3, .string t]] u fun e w' => e = .returned (.tuple #[]) ∧ SJ w p b (jat no L (i + 1)) w' by
    have hm : L.getD i [] ∈ L := by
      rw [List.getD_eq_getElem?_getD, List.getElem?_eq_getElem (by omega)]
      exact List.getElem_mem _
    have hsz := hL.2 _ hm
    have hjs := (jat_size no L hL.2 i (by omega)).1
    have e : t.data.toList = L.getD i [] := by rw [ht, bt_list]
    have hz : t.size ≤ 300 := by rw [ht, bt_size]; exact hsz
    have := snap_write hT h 3 t (by omega) (by rw [e]; exact checkR_ent (by omega)) hz
    rw [e] at this
    rw [jat_succ no L i (by omega)]
    exact this)
  have HW3 := Lib.hid fun u p b (h : SJ w p b (jat no L n) u) => (show Calls Tryd.prog 70 #[p, .agg #[.int .i64 2, .string ⟨#[]⟩]] u fun e w' => e = .returned (.tuple #[]) ∧ SJ w p b (layJ no L) w' by
    have hjs := (jat_size no L hL.2 n (by omega)).1
    have := snap_write hT h 2 ⟨#[]⟩ (by omega) (by decide) (by decide)
    rw [jat_all, ← hnn]
    exact this)
  have HCU : Hid (∀ u, Below w.heap.size w u → ∀ i, i < n → ∃ b off, ad = some ⟨b, off, none⟩ ∧ b < w.heap.size ∧ u.cell? ⟨b, off + i, none⟩ = some (.string (bt (L.getD i [])))) := Lib.hid fun u hu i hi => by
    obtain ⟨b, off, e, hb, _, hc⟩ := hC i (by omega)
    exact ⟨b, off, e, hb, (hu.cell (p := ⟨b, off + i, none⟩) hb).trans hc⟩
  have HEN := Lib.hid fun t u => ventry_any t u
  have n0 : (0 : Int) ≤ (n : Int) := Int.natCast_nonneg _
  clear hC hnn hL hq hT htb htl hts h0 h1
  go_enter Tryd.func49, Tryd.ntmps49
  go_wp2_with (first
    | (go_at_call 60; (with_reducible refine (HNW.out _).mono ?_); rintro e w1 ⟨rfl, hk1, hb1⟩; have HK1 := Lib.hid hk1; have HB1 := Lib.hid hb1; clear hk1 hb1)
    | (go_at_call 61; (with_reducible refine (HNM.out _ HB1.out HK1.out).mono ?_); rintro e w2 ⟨rfl, hk2, ht2⟩; have HK2 := Lib.hid hk2; have HB2 := Lib.hid (HB1.out.trans (ht2.below (B := w.heap.size) fun k h => h)); clear hk2 ht2)
    | (go_at_call 64; (with_reducible refine (HDN.out _ HK2.out).mono ?_); rintro e w3 ⟨rfl, rfl⟩)
    | (go_at_call 69; (with_reducible refine (HOP.out _ HB2.out).mono ?_); rintro e w4 ⟨p, b, v4, G', rfl, hj4, hn4, hg4, ho4, hb4⟩; have hB4 := HB2.out.trans (hb4.mono HB2.out.size); have S4 := Lib.hid (show SJ w p b j0 w4 from ⟨jn_is.next HT.out hB4, jn_is.mono hj4 fun k hk => Nat.le_trans HB2.out.size (hg4 k hk), hB4⟩); clear hj4 hn4 hg4 ho4 hb4 hB4)
    | (go_at_call 70; (with_reducible refine (HW1.out _ _ _ S4.out).mono ?_); rintro e w5 ⟨rfl, s5⟩; have S5 := Lib.hid s5; clear s5))
  go_loopg [31] (n + 1) (fun gk s31 wr => ∃ i : Nat, s31 = .int .i64 i ∧ i ≤ n ∧ n - i < gk ∧ Hid (SJ w p b (jat no L i) wr))
  case atStart => exact ⟨0, rfl, Nat.zero_le _, by omega, S5⟩
  case round =>
    obtain ⟨i, rfl, hi, hgk, SI⟩ := hrel
    clear S5 S4
    have i0 : (0 : Int) ≤ (i : Int) := Int.natCast_nonneg _
    by_cases hlt : i < n
    · have hltz : (i : Int) < (n : Int) := by omega
      obtain ⟨bl, off, rfl, hbl, a0⟩ := HCU.out wr SI.out.below i hlt
      obtain ⟨t, ht⟩ : ∃ t, t = bt (L.getD i []) := ⟨_, rfl⟩
      rw [← ht] at a0
      have HTT := Lib.hid ht
      clear ht
      go_wp2_with (first
        | (go_at_call 51; (with_reducible refine (HEN.out _ _).mono ?_); rintro e w6 ⟨rfl, hb6⟩; have S6 := Lib.hid (SI.out.next hb6); clear hb6)
        | (go_at_call 70; (with_reducible refine (HW2.out _ _ _ _ _ S6.out hlt HTT.out).mono ?_); rintro e w7 ⟨rfl, s7⟩; have S7 := Lib.hid s7; clear s7))
      go_roundg (n - i)
      case measure => omega
      case rel => exact ⟨i + 1, by go_num, hlt, by omega, S7⟩
    · have hlt' : ¬ (i : Int) < (n : Int) := by omega
      have hie : i = n := by omega
      have SN : Hid (SJ w p b (jat no L n) wr) := by rw [← hie]; exact SI
      clear hie
      go_wp2_with (go_at_call 70; (with_reducible refine (HW3.out _ _ _ SN.out).mono ?_); rintro e w7 ⟨rfl, s7⟩; have S7 := Lib.hid s7; clear s7)
      go_ret
      exact ⟨p, b, rfl, S7.out.j, S7.out.below⟩
set_option maxHeartbeats 4000000 in
/-- of a number too great -/
theorem vsnapshot_big (q : Int) (hq : 2147483647 < q) (lv : Value) (w : World) : Calls Tryd.prog 49 #[.int .i64 q, lv] w fun e w' => e = .panicked [{ v := .iface 26 (.int .i64 3), recovered := false }] ∧ w = w' := by
  have hq1 : q > 2147483647 := hq
  go_enter Tryd.func49, Tryd.ntmps49
  go_wp2_with fail
  exact ⟨rfl, rfl, rfl⟩
end Go.Proofs.YtkbbeioednhefaaDoor.vt
