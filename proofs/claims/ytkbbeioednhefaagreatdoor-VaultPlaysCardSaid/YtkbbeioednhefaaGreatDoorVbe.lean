/-
  The landed vault: snapshot.
  The landed vault: what stands behind load; Load, New.
-/
import Derived.Test.YtkbbeioednhefaaGreatDoorVbo
import Derived.Test.YtkbbeioednhefaaGreatDoorVtis
import Derived.WalkLawsBesides
import Derived.Test.YtkbbeioednhefaaGreatDoorVbd
namespace Go.Proofs.YtkbbeioednhefaaGreatDoor.vt
open Go.RowKit Go.Proofs.YtkbbeioednhefaaGreatDoor.mem Go.Proofs.YtkbbeioednhefaaGreatDoor.sha Go.Proofs.YtkbbeioednhefaaGreatDoor.strx Go.Proofs.YtkbbeioednhefaaGreatDoor.rows Go.Proofs.YtkbbeioednhefaaGreatDoor.ids Go.Proofs.YtkbbeioednhefaaGreatDoor.rcd Go.Proofs.YtkbbeioednhefaaGreatDoor.jn Go.Proofs.YtkbbeioednhefaaGreatDoor.txl
open Go.Proofs.YtkbbeioednhefaaGreatDoor.opn (b4 wnum4_s WrIs.new)

/-- the snapshot that is being laid, in blocks new since w0 -/
structure SJ (w0 : World) (p b : Value) (j : Jr) (u : World) : Prop where
  t : crc.Tab u
  j : JnL (w0.heap.size ≤ ·) u p b j
  below : Below w0.heap.size w0 u
theorem SJ.new {w0 u : World} {p b : Value} {j : Jr} (h : SJ w0 p b j u) : New (w0.heap.size ≤ ·) u := fun _ hk => Nat.le_trans h.below.size hk
theorem SJ.next {w0 u u' : World} {p b : Value} {j : Jr} (h : SJ w0 p b j u) (hb : Below u.heap.size u u') : SJ w0 p b j u' :=
  ⟨jn_a.next h.t hb, jn_a.turn h.j (Turn.ofBelow hb) fun _ hk _ => Nat.not_le.2 hk, h.below.trans (hb.mono h.below.size)⟩
theorem SJ.op {w0 u u' : World} {p b : Value} {j j' : Jr} (hT : crc.Tab w0) (h : SJ w0 p b j u) (hj : JnL (w0.heap.size ≤ ·) u' p b j') (ht : Turn (w0.heap.size ≤ ·) u u') : SJ w0 p b j' u' := by
  have hB := h.below.trans (ht.below (B := w0.heap.size) fun _ h => h)
  exact ⟨jn_a.next hT hB, hj, hB⟩
theorem snap_write {w0 u : World} {p b : Value} {j : Jr} (hT : crc.Tab w0) (h : SJ w0 p b j u) (k : Int) (t : ByteArray) (hs : j.s.length ≤ 100000) (hc : checkR ⟨k, t.data.toList⟩ = 0) (ht : t.size ≤ 300) :
    Calls Tryz.prog 50 #[p, .agg #[.int .i64 k, .string t]] u fun e w' => e = .returned (.tuple #[]) ∧ SJ w0 p b (appJ j ⟨k, t.data.toList⟩).1 w' :=
  (vwrite_any (w0.heap.size ≤ ·) p b j k t u h.t h.new h.j hs hc ht).mono fun e w' ⟨he, hj, ht⟩ => ⟨he, h.op hT hj ht⟩
set_option maxHeartbeats 8000000 in
set_option maxRecDepth 100000 in
theorem vsnapshot_any (no : Int) (h0 : 0 ≤ no + 1) (h1 : no + 1 ≤ 2147483647) (N : Nat → Prop) (lv : Value) (L : List (List UInt8)) (w : World) (hT : crc.Tab w) (hl : TxA w N lv L) (hL : smallL L) :
    Calls Tryz.prog 23 #[.int .i64 (no + 1), lv] w fun e w' => ∃ p b, e = .returned p ∧ JnL (w.heap.size ≤ ·) w' p b (layJ no L) ∧ Below w.heap.size w w' := by
  obtain ⟨n, hnn⟩ : ∃ n, n = L.length := ⟨_, rfl⟩
  obtain ⟨ad, cap, rfl, hC⟩ := hl
  have HC := Lib.hid hC
  have HNN := Lib.hid hnn
  have HL := Lib.hid hL
  rw [← hnn]
  have hn30 : n ≤ 30 := by rw [hnn]; exact hL.1
  obtain ⟨q, hq⟩ : ∃ q, q = no + 1 := ⟨_, rfl⟩
  have HQ := Lib.hid hq
  rw [← hq] at h0 h1 ⊢
  have hq1 : ¬ q > 2147483647 := by omega
  have hq2 : ¬ 2147483647 < q := by omega
  have HT := Lib.hid hT
  have HNW := Lib.hid fun u => oct.new_any u
  have HNM := Lib.hid fun u (hb : Below w.heap.size w u) (h : oct.WBlk u w.heap.size (.slice none 0 0) 0) => wnum4_s (w.heap.size ≤ ·) w.heap.size [] q h0 (by omega) u (WrIs.new h (Nat.le_refl _)) (fun k hk => Nat.le_trans hb.size hk) (by decide)
  simp only [List.nil_append] at HNM
  have HDN := Lib.hid fun u (h : oct.WrIs u (w.heap.size ≤ ·) w.heap.size (b4 q) 0) => oct.done_any _ _ _ _ u h
  obtain ⟨tb, htb⟩ : ∃ t, t = oct.tx (b4 q) := ⟨_, rfl⟩
  rw [show oct.wDone (b4 q, 0) = (tb, 0) by rw [htb]; rfl] at HDN
  have htl : tb.data.toList = b4 q := by rw [htb, oct.tx_list]
  have hts : tb.size = 4 := by rw [htb, oct.tx_size, opn.b4_len]
  have HOP := Lib.hid fun u (hb : Below w.heap.size w u) => vopen_any ⟨#[]⟩ (by decide) u (jn_a.next hT hb)
  rw [show openJ (⟨#[]⟩ : ByteArray).data.toList = j0 from rfl] at HOP
  have HW1 := Lib.hid fun u p b (h : SJ w p b j0 u) => snap_write hT h 1 tb (by decide) (by rw [htl]; exact checkR_gen q) (by omega)
  rw [htl] at HW1
  rw [show (appJ j0 ⟨1, b4 q⟩).1 = jat no L 0 by rw [hq]; rfl] at HW1
  have HW2 := Lib.hid fun u p b i t (h : SJ w p b (jat no L i) u) (hi : i < n) (ht : t = bt (L.getD i [])) => (show Calls Tryz.prog 50 #[p, .agg #[.int .i64 3, .string t]] u fun e w' => e = .returned (.tuple #[]) ∧ SJ w p b (jat no L (i + 1)) w' by
    have hm : L.getD i [] ∈ L := by
      rw [List.getD_eq_getElem?_getD, List.getElem?_eq_getElem (by omega)]
      exact List.getElem_mem _
    have hsz := hL.2 _ hm
    have hjs := (jat_size no L hL.2 i (by omega)).1
    have e : t.data.toList = L.getD i [] := by rw [ht, bt_list]
    have hz : t.size ≤ 300 := by rw [ht, bt_size]; exact hsz
    have := snap_write hT h 3 t (by omega) (by rw [e]; exact checkR_ent (by omega)) hz
    rw [e] at this
    rw [jat_succ no L i (by omega)]
    exact this)
  have HW3 := Lib.hid fun u p b (h : SJ w p b (jat no L n) u) => (show Calls Tryz.prog 50 #[p, .agg #[.int .i64 2, .string ⟨#[]⟩]] u fun e w' => e = .returned (.tuple #[]) ∧ SJ w p b (layJ no L) w' by
    have hjs := (jat_size no L hL.2 n (by omega)).1
    have := snap_write hT h 2 ⟨#[]⟩ (by omega) (by decide) (by decide)
    rw [jat_all, ← hnn]
    exact this)
  have HCU : Hid (∀ u, Below w.heap.size w u → ∀ i, i < n → ∃ b off, ad = some ⟨b, off, none⟩ ∧ b < w.heap.size ∧ u.cell? ⟨b, off + i, none⟩ = some (.string (bt (L.getD i [])))) := Lib.hid fun u hu i hi => by
    obtain ⟨b, off, e, hb, _, hc⟩ := hC i (by omega)
    exact ⟨b, off, e, hb, (hu.cell (p := ⟨b, off + i, none⟩) hb).trans hc⟩
  have HEN := Lib.hid fun t u => ventry_any t u
  have n0 : (0 : Int) ≤ (n : Int) := Int.natCast_nonneg _
  clear hC hnn hL hq hT htb htl hts h0 h1
  go_enter Tryz.func23, Tryz.ntmps23
  go_wp2_with (first
    | (go_at_call 46; (with_reducible refine (HNW.out _).mono ?_); rintro e w1 ⟨rfl, hk1, hb1⟩; have HK1 := Lib.hid hk1; have HB1 := Lib.hid hb1; clear hk1 hb1)
    | (go_at_call 47; (with_reducible refine (HNM.out _ HB1.out HK1.out).mono ?_); rintro e w2 ⟨rfl, hk2, ht2⟩; have HK2 := Lib.hid hk2; have HB2 := Lib.hid (HB1.out.trans (ht2.below (B := w.heap.size) fun k h => h)); clear hk2 ht2)
    | (go_at_call 48; (with_reducible refine (HDN.out _ HK2.out).mono ?_); rintro e w3 ⟨rfl, rfl⟩)
    | (go_at_call 49; (with_reducible refine (HOP.out _ HB2.out).mono ?_); rintro e w4 ⟨p, b, v4, G', rfl, hj4, hn4, hg4, ho4, hb4⟩; have hB4 := HB2.out.trans (hb4.mono HB2.out.size); have S4 := Lib.hid (show SJ w p b j0 w4 from ⟨jn_a.next HT.out hB4, jn_a.mono hj4 fun k hk => Nat.le_trans HB2.out.size (hg4 k hk), hB4⟩); clear hj4 hn4 hg4 ho4 hb4 hB4)
    | (go_at_call 50; (with_reducible refine (HW1.out _ _ _ S4.out).mono ?_); rintro e w5 ⟨rfl, s5⟩; have S5 := Lib.hid s5; clear s5))
  go_loopg [31] (n + 1) (fun gk s31 wr => ∃ i : Nat, s31 = .int .i64 i ∧ i ≤ n ∧ n - i < gk ∧ Hid (SJ w p b (jat no L i) wr))
  case atStart => exact ⟨0, rfl, Nat.zero_le _, by omega, S5⟩
  case round =>
    obtain ⟨i, rfl, hi, hgk, SI⟩ := hrel
    clear S5 S4
    have i0 : (0 : Int) ≤ (i : Int) := Int.natCast_nonneg _
    by_cases hlt : i < n
    · have hltz : (i : Int) < (n : Int) := by omega
      obtain ⟨bl, off, rfl, hbl, a0⟩ := HCU.out wr SI.out.below i hlt
      obtain ⟨t, ht⟩ : ∃ t, t = bt (L.getD i []) := ⟨_, rfl⟩
      rw [← ht] at a0
      have HTT := Lib.hid ht
      clear ht
      go_wp2_with (first
        | (go_at_call 30; (with_reducible refine (HEN.out _ _).mono ?_); rintro e w6 ⟨rfl, hb6⟩; have S6 := Lib.hid (SI.out.next hb6); clear hb6)
        | (go_at_call 50; (with_reducible refine (HW2.out _ _ _ _ _ S6.out hlt HTT.out).mono ?_); rintro e w7 ⟨rfl, s7⟩; have S7 := Lib.hid s7; clear s7))
      go_roundg (n - i)
      case measure => omega
      case rel => exact ⟨i + 1, by go_num, hlt, by omega, S7⟩
    · have hlt' : ¬ (i : Int) < (n : Int) := by omega
      have hie : i = n := by omega
      have SN : Hid (SJ w p b (jat no L n) wr) := by rw [← hie]; exact SI
      clear hie
      go_wp2_with (go_at_call 50; (with_reducible refine (HW3.out _ _ _ SN.out).mono ?_); rintro e w7 ⟨rfl, s7⟩; have S7 := Lib.hid s7; clear s7)
      go_ret
      exact ⟨p, b, rfl, S7.out.j, S7.out.below⟩
set_option maxHeartbeats 4000000 in
/-- of a number too great -/
theorem vsnapshot_big (q : Int) (hq : 2147483647 < q) (lv : Value) (w : World) : Calls Tryz.prog 23 #[.int .i64 q, lv] w fun e w' => e = .panicked [{ v := .iface 37 (.int .i64 3), recovered := false }] ∧ w = w' := by
  have hq1 : q > 2147483647 := hq
  go_enter Tryz.func23, Tryz.ntmps23
  go_wp2_with fail
  exact ⟨rfl, rfl, rfl⟩
end Go.Proofs.YtkbbeioednhefaaGreatDoor.vt

namespace Go.Proofs.YtkbbeioednhefaaGreatDoor.vt
open Go.RowKit Go.Proofs.YtkbbeioednhefaaGreatDoor.mem Go.Proofs.YtkbbeioednhefaaGreatDoor.sha Go.Proofs.YtkbbeioednhefaaGreatDoor.strx Go.Proofs.YtkbbeioednhefaaGreatDoor.rows Go.Proofs.YtkbbeioednhefaaGreatDoor.ids Go.Proofs.YtkbbeioednhefaaGreatDoor.rcd Go.Proofs.YtkbbeioednhefaaGreatDoor.jn Go.Proofs.YtkbbeioednhefaaGreatDoor.txl

/-- the two files as they were opened make a vault -/
theorem VtOf.made {G A B : Nat → Prop} {w : World} {g : Nat} {v : Vt} {pa pb ba bb : Value} (hb : VBlk w g (.pointer (some ⟨g, 0, none⟩)) pa pb v.use v.no) (ja : JnL A w pa ba v.a) (jb : JnL B w pb bb v.b)
    (ha : ∀ k, A k → G k ∧ k ≠ g ∧ k < w.heap.size) (hb2 : ∀ k, B k → G k ∧ k ≠ g ∧ k < w.heap.size) (hab : ∀ k, A k → ¬ B k) (hg : G g ∧ g ≠ 0) (hs : Snd v) : VtL G w (.pointer (some ⟨g, 0, none⟩)) v := by
  by_cases hu : v.use = 0
  · refine ⟨g, pa, pb, ba, bb, A, B, rfl, ⟨?_, ?_, ?_, ha, hb2, hab, hg, hs⟩⟩
    · rw [if_pos hu, if_pos hu]; exact hb
    · unfold Vt.cur; rw [if_pos hu]; exact ja
    · unfold Vt.othr; rw [if_pos hu]; exact jb
  · refine ⟨g, pb, pa, bb, ba, B, A, rfl, ⟨?_, ?_, ?_, hb2, ha, fun k h1 h2 => hab k h2 h1, hg, hs⟩⟩
    · rw [if_neg hu, if_neg hu]; exact hb
    · unfold Vt.cur; rw [if_neg hu]; exact jb
    · unfold Vt.othr; rw [if_neg hu]; exact ja
theorem pick_a (x y : Jr) : (pickV x y).a = x := by unfold pickV; split <;> rfl
theorem pick_b (x y : Jr) : (pickV x y).b = y := by unfold pickV; split <;> rfl
set_option maxHeartbeats 4000000 in
set_option maxRecDepth 100000 in
theorem vLoad_any (s t : ByteArray) (hs : s.size ≤ 100000) (ht : t.size ≤ 100000) (w : World) (hT : crc.Tab w) : Calls Tryz.prog 21 #[.string s, .string t] w fun e w' => ∃ p l, e = .returned (.tuple #[p, l, .int .i64 (loadV s.data.toList t.data.toList).2.2]) ∧ Below w.heap.size w w' ∧
    ((¬ (loadV s.data.toList t.data.toList).2.2 = 0 ∧ p = .pointer none ∧ TxA w' (fun _ => True) l []) ∨ ((loadV s.data.toList t.data.toList).2.2 = 0 ∧ ∃ pa G', p = .pointer (some pa) ∧ VtL G' w' p (loadV s.data.toList t.data.toList).1 ∧ New G' w' ∧ (∀ k, G' k → w.heap.size ≤ k) ∧ TxA w' (fun k => w.heap.size ≤ k ∧ ¬ G' k) l (loadV s.data.toList t.data.toList).2.1)) := by
  have hsz0 := hT.1
  obtain ⟨g, hg⟩ : ∃ S, S = w.heap.size := ⟨_, rfl⟩
  obtain ⟨w1, hw1⟩ : ∃ u, u = w.alloc (.cells #[.pointer none, .pointer none, .pointer none, .int .i64 0, .int .i64 0] 70) := ⟨_, rfl⟩
  have hB1 : Below w.heap.size w w1 := by rw [hw1]; exact (Below.refl _ w).alloc (Nat.le_refl _) _
  have hs1 : w1.heap.size = g + 1 := by rw [hw1, hg]; simp
  have hV1 : VBlk w1 g (.pointer none) (.pointer none) (.pointer none) 0 0 := by rw [hw1, hg]; exact Blk.new w _ _
  obtain ⟨w2, hw2⟩ : ∃ u, u = w1.alloc (.cells #[.string s, .string t] 9) := ⟨_, rfl⟩
  have hB2 : Below w1.heap.size w1 w2 := by rw [hw2]; exact (Below.refl _ w1).alloc (Nat.le_refl _) _
  have hK2 : Blk w2 (g + 1) 9 #[.string s, .string t] := by rw [hw2, ← hs1]; exact Blk.new w1 _ _
  have hV2 : VBlk w2 g (.pointer none) (.pointer none) (.pointer none) 0 0 := Blk.below hV1 hB2 (Blk.lt hV1)
  have hs2 : w2.heap.size = g + 2 := by rw [hw2]; simp [hs1]
  have hBB : Below w.heap.size w w2 := hB1.trans (hB2.mono hB1.size)
  have HL := Lib.hid (vload_any g (g + 1) _ _ _ 0 0 s t hs ht w2 (jn_a.next hT hBB) hV2 (by omega) hK2 (by omega))
  have HW1 := Lib.hid hw1
  have HW2 := Lib.hid hw2
  have HS1 := Lib.hid hs1
  have HG := Lib.hid hg
  have HBB := Lib.hid (And.intro hBB (And.intro hs2 (And.intro hsz0 (Blk.lt hV2))))
  have hld : loadV s.data.toList t.data.toList = if noneV (openJ s.data.toList) (openJ t.data.toList) then (zvt, [], 4) else (pickV (openJ s.data.toList) (openJ t.data.toList), heldV (pickV (openJ s.data.toList) (openJ t.data.toList)).cur.l, 0) := rfl
  have hpk := Snd.pick s.data.toList t.data.toList
  unfold LdAns at HL
  obtain ⟨S, hS⟩ : ∃ S, S = s.data.toList := ⟨_, rfl⟩
  obtain ⟨U, hU⟩ : ∃ S, S = t.data.toList := ⟨_, rfl⟩
  rw [← hS, ← hU] at HL hld hpk ⊢
  have HLD := Lib.hid hld
  have HPK := Lib.hid hpk
  clear hsz0 hg hw1 hB1 hs1 hV1 hw2 hB2 hK2 hV2 hs2 hBB hT hs ht hld hpk hS hU
  obtain ⟨E, hE⟩ : ∃ E, E = (loadV S U).2.2 := ⟨_, rfl⟩
  rw [← hE] at HL ⊢
  have HE := Lib.hid hE
  clear hE
  go_enter Tryz.func21, Tryz.ntmps21
  go_upto_region 2 with fail
  refine wp_at HW1.out.symm ?_
  rw [← HG.out]
  clear HW1
  go_upto_region 3 with (go_at_call 33; (refine opn.lcalls_at HW2.out.symm ?_); (rw [HS1.out]); (with_reducible refine HL.out.mono ?_); rintro e w3 ⟨m, rfl, ht3, hr3⟩; have HT3 := Lib.hid ht3; have HR3 := Lib.hid hr3; clear ht3 hr3)
  have hv : VBlk w2 g (.pointer none) (.pointer none) (.pointer none) 0 0 ∨ True := .inr trivial
  clear hv
  rcases HR3.out with ⟨hN, rfl⟩ | ⟨hN, pa, pb, ba, bb, A, B, hb3, ja, jb, ha, hb, hab, hm⟩
  · have hE : E = 4 := by rw [HE.out, HLD.out, if_pos hN]
    have HEE := Lib.hid hE
    subst hE
    have HNN := Lib.hid hN
    clear hN HR3 HL
    go_wp2_with fail
    refine bodyPost_ret (results_tmp3 rfl _ _ _) rfl ⟨_, _, rfl, HBB.out.1.trans (HT3.out.below fun k hk => hk.elim (fun e => by rw [e, HG.out]; exact Nat.le_refl _) fun e => Nat.le_trans HBB.out.1.size e), rfl, TxA.nil _ _⟩
  · have hE : E = 0 := by rw [HE.out, HLD.out, if_neg hN]
    obtain ⟨ad, cap, hmf⟩ := OwnK.form hm
    subst hmf
    have HM := Lib.hid hm
    have HVB := Lib.hid hb3
    have HJA := Lib.hid ja
    have HJB := Lib.hid jb
    have HA := Lib.hid (And.intro ha (And.intro hb hab))
    have c0 := hb3.c0
    have f0 := Blk.frozen hb3 0
    have HNN := Lib.hid hN
    have HLE := Lib.hid (show loadV S U = (pickV (openJ S) (openJ U), heldV (pickV (openJ S) (openJ U)).cur.l, 0) by rw [HLD.out, if_neg hN])
    subst hE
    clear hN HR3 HL hb3 ja jb ha hb hab hm
    go_wp2_with fail
    rw [HLE.out]
    obtain ⟨w4, hw4⟩ : ∃ z, z = w3.setCell ⟨g, 0, none⟩ (.pointer (some ⟨g, 0, none⟩)) := ⟨_, rfl⟩
    have ht4 : Turn (· = g) w3 w4 := by rw [hw4]; exact set_turn _
    have hv4 := Blk.set_ HVB.out 0 (.pointer (some ⟨g, 0, none⟩))
    rw [← hw4] at hv4 ⊢
    clear hw4
    obtain ⟨ha, hb, hab⟩ := HA.out
    obtain ⟨hBw, hs2, hs0, hgl⟩ := HBB.out
    have hGe := HG.out
    have hz3 := HT3.out.size
    have hz4 := ht4.size
    have hm4 : OwnT w4 _ _ _ := OwnK.turn HM.out ht4 fun k hk e => by have := (HM.out.2.2 k hk).1; omega
    refine bodyPost_ret (results_tmp3 rfl _ _ _) rfl ⟨_, _, rfl, (hBw.trans (HT3.out.below fun k hk => hk.elim (fun e => by omega) fun e => by omega)).trans ((ht4.below (B := w.heap.size) fun k hk => by omega)), ⟨_, rfl⟩, fun k => A k ∨ B k ∨ k = g ∨ w4.heap.size ≤ k,
      VtOf.made (A := A) (B := B) (ba := ba) (bb := bb) hv4 ?_ ?_ (fun k hk => ⟨.inl hk, by have := (ha k hk).1; omega, by have := (ha k hk).2; omega⟩) (fun k hk => ⟨.inr (.inl hk), by have := (hb k hk).1; omega, by have := (hb k hk).2; omega⟩) hab ⟨.inr (.inr (.inl rfl)), by omega⟩ (HPK.out HNN.out), fun k hk => .inr (.inr (.inr hk)), ?_, ?_⟩
    · rw [pick_a]; exact jn_a.turn HJA.out ht4 fun k _ hk e => by have := (ha k hk).1; omega
    · rw [pick_b]; exact jn_a.turn HJB.out ht4 fun k _ hk e => by have := (hb k hk).1; omega
    · intro k hk
      rcases hk with h | h | h | h
      · have := (ha k h).1; omega
      · have := (hb k h).1; omega
      · omega
      · omega
    · have hmx := OwnT.txa hm4
      rw [List.length_map] at hmx
      refine hmx.mono fun k hk h => ⟨by omega, fun hh => ?_⟩
      rcases hh with h1 | h1 | h1 | h1
      · exact h.2.1 h1
      · exact h.2.2 h1
      · omega
      · omega
theorem new_s : loadV (fileJ (snapG (-1 + 1) []) 0).s [] = (⟨fileJ (firstG []) 2, j0, 0, 0⟩, [], 0) ∧ True := by
  refine ⟨?_, trivial⟩
  have h1 : openJ (fileJ (snapG (-1 + 1) []) 0).s = fileJ (firstG []) 2 := open_file (snapG 0 []) (snap_ok fun s hs => by cases hs)
  have h2 : numV (fileJ (firstG []) 2).l = 0 := first_num []
  have h3 : numV j0.l = -1 := rfl
  unfold loadV
  rw [h1, openJ_nil, if_neg (by unfold noneV; rw [h2]; omega)]
  unfold pickV
  rw [h2, h3, if_neg (by decide)]
  rfl
theorem new_load : ∃ S, (layJ (-1) []).s = S ∧ S.length ≤ 100 ∧ (loadV S []).2.2 = 0 ∧ (loadV S []).1 = newV := by
  refine ⟨_, rfl, ?_, ?_, ?_⟩
  · rw [lay_file (-1) [] (fun s hs => by cases hs)]
    decide +kernel
  · rw [lay_file (-1) [] (fun s hs => by cases hs), new_s.1]
  · rw [lay_file (-1) [] (fun s hs => by cases hs), new_s.1, new_file]
set_option maxHeartbeats 4000000 in
set_option maxRecDepth 100000 in
theorem vnew_any (w : World) (hT : crc.Tab w) : Calls Tryz.prog 5 #[] w fun e w' => ∃ p, e = .returned p ∧ VtL (w.heap.size ≤ ·) w' p newV ∧ Below w.heap.size w w' := by
  obtain ⟨S, hS, hl, hE, hV⟩ := new_load
  have hSN := vsnapshot_any (-1) (by decide) (by decide) (fun _ => True) (.slice none 0 0) [] w hT (TxA.nil _ _) ⟨by decide, fun s hs => by cases hs⟩
  rw [show (-1 : Int) + 1 = 0 from rfl] at hSN
  have HSN := Lib.hid hSN
  obtain ⟨J, hJ⟩ : ∃ J, J = layJ (-1) [] := ⟨_, rfl⟩
  rw [← hJ] at HSN hS
  have HDT := Lib.hid fun G p b u (hb : Below w.heap.size w u) (h : JnL G u p b J) => jn_a.data G p b J u (jn_a.next hT hb) h
  rw [hS] at HDT
  obtain ⟨t, ht⟩ : ∃ t, t = oct.tx S := ⟨_, rfl⟩
  rw [← ht] at HDT
  have htl : t.data.toList = S := by rw [ht, oct.tx_list]
  have htz : t.size ≤ 100000 := by rw [size_list, htl]; omega
  have hLD := fun u (hb : Below w.heap.size w u) => vLoad_any t ⟨#[]⟩ htz (by decide) u (jn_a.next hT hb)
  rw [htl, show (⟨#[]⟩ : ByteArray).data.toList = [] from rfl, hE, hV] at hLD
  have HLD := Lib.hid hLD
  clear hS hl hE hV hSN hJ ht htl htz hLD hT
  go_enter Tryz.func5, Tryz.ntmps5
  go_wp2_with (first
    | (go_at_call 23; (with_reducible refine HSN.out.mono ?_); rintro e w1 ⟨p, b, rfl, hj1, hb1⟩; obtain ⟨gp, rfl, d0, -, -⟩ := JnL.form hj1; have HJ1 := Lib.hid hj1; have HB1 := Lib.hid hb1; clear hj1 hb1)
    | (go_at_call 24; (with_reducible refine (HDT.out _ _ _ _ HB1.out HJ1.out).mono ?_); rintro e w2 ⟨rfl, hb2⟩; have HB2 := Lib.hid (HB1.out.trans (hb2.mono HB1.out.size)); clear hb2)
    | (go_at_call 21; (with_reducible refine (HLD.out _ HB2.out).mono ?_); rintro e w3 ⟨p3, l3, rfl, hb3, hr3⟩; have HB3 := Lib.hid hb3; have HR3 := Lib.hid hr3; clear hb3 hr3))
  go_ret
  rcases HR3.out with ⟨h, -⟩ | ⟨-, pa, G', rfl, hv, hn, hg, -⟩
  · exact (h trivial).elim
  obtain ⟨g, pc, po, bc, bo, A, B, hp, hv⟩ := hv
  have hz := HB2.out.size
  exact ⟨_, rfl, ⟨g, pc, po, bc, bo, A, B, hp, hv.mono fun k hk => Nat.le_trans hz (hg k hk)⟩, HB2.out.trans (HB3.out.mono hz)⟩
end Go.Proofs.YtkbbeioednhefaaGreatDoor.vt
