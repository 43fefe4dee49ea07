/-
  The landed vault: load: both files opened, the one in use found, what it holds.
-/
import Derived.Test.YtkbbeioednhefaaGreatDoorVbo
namespace Go.Proofs.YtkbbeioednhefaaGreatDoor.vt
open Go.RowKit Go.Proofs.YtkbbeioednhefaaGreatDoor.mem Go.Proofs.YtkbbeioednhefaaGreatDoor.sha Go.Proofs.YtkbbeioednhefaaGreatDoor.strx Go.Proofs.YtkbbeioednhefaaGreatDoor.rows Go.Proofs.YtkbbeioednhefaaGreatDoor.ids Go.Proofs.YtkbbeioednhefaaGreatDoor.rcd Go.Proofs.YtkbbeioednhefaaGreatDoor.jn Go.Proofs.YtkbbeioednhefaaGreatDoor.txl

/-- what load answers -/
def LdAns (w : World) (g : Nat) (sv : Value) (s t : List UInt8) (e : Ending) (w' : World) : Prop :=
  ∃ m, e = .returned (.tuple #[m, .int .i64 (loadV s t).2.2]) ∧ Turn (fun k => k = g ∨ w.heap.size ≤ k) w w' ∧
    ((noneV (openJ s) (openJ t) ∧ m = .slice none 0 0) ∨ (¬ noneV (openJ s) (openJ t) ∧ ∃ pa pb ba bb A B, VBlk w' g sv pa pb (pickV (openJ s) (openJ t)).use (pickV (openJ s) (openJ t)).no ∧ JnL A w' pa ba (openJ s) ∧ JnL B w' pb bb (openJ t) ∧
      (∀ k, A k → w.heap.size ≤ k ∧ k < w'.heap.size) ∧ (∀ k, B k → w.heap.size ≤ k ∧ k < w'.heap.size) ∧ (∀ k, A k → ¬ B k) ∧ OwnT w' (fun k => w.heap.size ≤ k ∧ ¬ A k ∧ ¬ B k) m (heldV (pickV (openJ s) (openJ t)).cur.l)))
/-- ahead of both files -/
structure LD0 (w : World) (g : Nat) (sv fa fb : Value) (u : Int) (hv : Value) (wr : World) : Prop where
  blk : VBlk wr g sv fa fb u (-1)
  turn : Turn (fun k => k = g ∨ w.heap.size ≤ k) w wr
  hv : hv = .slice none 0 0
/-- behind the first -/
structure LD1 (w : World) (g : Nat) (sv pa fb ba : Value) (JA : Jr) (u x : Int) (hv : Value) (L : List Rc) (A : Nat → Prop) (wr : World) : Prop where
  blk : VBlk wr g sv pa fb u x
  ja : JnL A wr pa ba JA
  a : ∀ k, A k → w.heap.size ≤ k ∧ k < wr.heap.size
  own : OwnR wr (w.heap.size ≤ ·) hv L
  turn : Turn (fun k => k = g ∨ w.heap.size ≤ k) w wr
  pk : 0 ≤ x → u = 0 ∧ L = JA.l
/-- behind both -/
structure LD2 (w : World) (g : Nat) (sv pa pb ba bb : Value) (JA JB : Jr) (u z : Int) (hv : Value) (L : List Rc) (A B : Nat → Prop) (wr : World) : Prop where
  blk : VBlk wr g sv pa pb u z
  ja : JnL A wr pa ba JA
  jb : JnL B wr pb bb JB
  a : ∀ k, A k → w.heap.size ≤ k ∧ k < wr.heap.size
  b : ∀ k, B k → w.heap.size ≤ k ∧ k < wr.heap.size
  ab : ∀ k, A k → ¬ B k
  own : OwnR wr (w.heap.size ≤ ·) hv L
  turn : Turn (fun k => k = g ∨ w.heap.size ≤ k) w wr
  zn : z < 0 ↔ noneV JA JB
  pk : ¬ noneV JA JB → u = (pickV JA JB).use ∧ z = (pickV JA JB).no ∧ L = (pickV JA JB).cur.l
theorem pick_lt {JA JB : Jr} (h : numV JA.l < numV JB.l) : (pickV JA JB).use = 1 ∧ (pickV JA JB).no = numV JB.l ∧ (pickV JA JB).cur.l = JB.l := by
  unfold pickV
  rw [if_pos h]
  exact ⟨rfl, rfl, rfl⟩
theorem pick_ge {JA JB : Jr} (h : ¬ numV JA.l < numV JB.l) : (pickV JA JB).use = 0 ∧ (pickV JA JB).no = numV JA.l ∧ (pickV JA JB).cur.l = JA.l := by
  unfold pickV
  rw [if_neg h]
  exact ⟨rfl, rfl, rfl⟩
theorem set_turn {w : World} {g i : Nat} (u : Value) : Turn (· = g) w (w.setCell ⟨g, i, none⟩ u) := (Turn.refl (· = g) w).setCell (p := ⟨g, i, none⟩) rfl _
set_option maxHeartbeats 8000000 in
set_option maxRecDepth 100000 in
theorem vload_any (g K : Nat) (sv fa fb : Value) (u n : Int) (s t : ByteArray) (hs : s.size ≤ 100000) (ht : t.size ≤ 100000) (w : World) (hT : crc.Tab w) (hb : VBlk w g sv fa fb u n) (hg0 : g ≠ 0) (hK : Blk w K 9 #[.string s, .string t]) (hKg : K ≠ g) :
    Calls Tryz.prog 33 #[.pointer (some ⟨g, 0, none⟩), .slice (some ⟨K, 0, none⟩) 2 2] w (LdAns w g sv s.data.toList t.data.toList) := by
  have hgl := Blk.lt hb
  have hKl := hK.lt
  have hTab := fun wr (h : Turn (fun k => k = g ∨ w.heap.size ≤ k) w wr) => rcd.tab_turn hT h (fun hh => hh.elim (fun e => hg0 e.symm) fun e => by have := hT.1; omega)
  have HTab := Lib.hid hTab
  have hsl : s.data.toList.length ≤ 100000 := by rw [← size_list]; exact hs
  have htl : t.data.toList.length ≤ 100000 := by rw [← size_list]; exact ht
  have hkc : ∀ wr, Turn (fun k => k = g ∨ w.heap.size ≤ k) w wr → wr.cell? ⟨K, 0, none⟩ = some (.string s) ∧ wr.cell? ⟨K, 1, none⟩ = some (.string t) := fun wr h => by
    have hk := Blk.turn hK h fun hh => hh.elim hKg fun e => by omega
    exact ⟨hk.cell 0, hk.cell 1⟩
  have HKC := Lib.hid hkc
  have HOA := Lib.hid fun wr (h : crc.Tab wr) => vopen_any s hs wr h
  have HOB := Lib.hid fun wr (h : crc.Tab wr) => vopen_any t ht wr h
  unfold LdAns
  have hld : loadV s.data.toList t.data.toList = if noneV (openJ s.data.toList) (openJ t.data.toList) then (zvt, [], 4) else (pickV (openJ s.data.toList) (openJ t.data.toList), heldV (pickV (openJ s.data.toList) (openJ t.data.toList)).cur.l, 0) := rfl
  have hE : (loadV s.data.toList t.data.toList).2.2 = if noneV (openJ s.data.toList) (openJ t.data.toList) then 4 else 0 := by rw [hld]; split <;> rfl
  obtain ⟨E, hEE⟩ : ∃ E, E = (loadV s.data.toList t.data.toList).2.2 := ⟨_, rfl⟩
  rw [← hEE] at hE ⊢
  have hra := openJ_recs s.data.toList
  have hrb := openJ_recs t.data.toList
  have hka := (open_any s.data.toList).1
  have hkb := (open_any t.data.toList).1
  obtain ⟨JA, hJA⟩ : ∃ J, J = openJ s.data.toList := ⟨_, rfl⟩
  obtain ⟨JB, hJB⟩ : ∃ J, J = openJ t.data.toList := ⟨_, rfl⟩
  rw [← hJA] at HOA hra hka hE ⊢
  rw [← hJB] at HOB hrb hkb hE ⊢
  have HNA := Lib.hid fun v wr (h : RcV wr v JA.l) => vnumber_any h hka (by omega)
  have HNB := Lib.hid fun v wr (h : RcV wr v JB.l) => vnumber_any h hkb (by omega)
  have HBO := Lib.hid fun v wr (h : RcV wr v (pickV JA JB).cur.l) => vbodies_any h (by
    by_cases hp : numV JA.l < numV JB.l
    · rw [(pick_lt hp).2.2]; omega
    · rw [(pick_ge hp).2.2]; omega)
  have hgeA := numV_ge JA.l
  have hgeB := numV_ge JB.l
  have hpl := pick_lt (JA := JA) (JB := JB)
  have hpg := pick_ge (JA := JA) (JB := JB)
  have hnn : noneV JA JB ↔ (numV JA.l < 0 ∧ numV JB.l < 0) := Iff.rfl
  obtain ⟨x, hx⟩ : ∃ x, x = numV JA.l := ⟨_, rfl⟩
  obtain ⟨y, hy⟩ : ∃ x, x = numV JB.l := ⟨_, rfl⟩
  rw [← hx] at HNA hgeA hpl hpg hnn
  rw [← hy] at HNB hgeB hpl hpg hnn
  have HPL := Lib.hid hpl
  have HPG := Lib.hid hpg
  have HNN := Lib.hid hnn
  have HGL := Lib.hid hgl
  have c4w := hb.c4
  have f4w := Blk.frozen hb 4
  have HB := Lib.hid hb
  have HE := Lib.hid hE
  obtain ⟨hx1, hx2⟩ := hgeA
  obtain ⟨hy1, hy2⟩ := hgeB
  clear hT hb hg0 hK hKg hTab hsl htl hkc hs ht hld hE hEE hra hrb hka hkb hJA hJB hpl hpg hnn hx hy hgl hKl
  go_enter Tryz.func33, Tryz.ntmps33
  go_upto_region 4 with fail
  have hL0 : LD0 w g sv fa fb u (.slice none 0 0) (w.setCell ⟨g, 4, none⟩ (.int .i64 (-1))) := ⟨Blk.set_ HB.out 4 _, (set_turn _).mono fun k hk => .inl hk, rfl⟩
  obtain ⟨w1, hw1⟩ : ∃ z, z = w.setCell ⟨g, 4, none⟩ (.int .i64 (-1)) := ⟨_, rfl⟩
  rw [← hw1] at hL0 ⊢
  have HL0 := Lib.hid hL0
  clear hL0 hw1 c4w f4w HB
  go_loopg [6, 18] 3 (fun gk s6 s18 wr => (s18 = .int .i64 0 ∧ 2 < gk ∧ Hid (LD0 w g sv fa fb u s6 wr)) ∨ (s18 = .int .i64 1 ∧ 1 < gk ∧ ∃ pa ba u1 L A, Hid (LD1 w g sv pa fb ba JA u1 x s6 L A wr)) ∨ (s18 = .int .i64 2 ∧ 0 < gk ∧ ∃ pa pb ba bb u2 z L A B, Hid (LD2 w g sv pa pb ba bb JA JB u2 z s6 L A B wr)))
  case atStart => exact .inl ⟨rfl, by omega, HL0⟩
  case round =>
    clear HL0
    rcases hrel with ⟨rfl, hgk, HI⟩ | ⟨rfl, hgk, pa, ba, u1, L1, A, HI⟩ | ⟨rfl, hgk, pa, pb, ba, bb, u2, z, L2, A, B, HI⟩
    · obtain rfl := HI.out.hv
      have k0 := (HKC.out wr HI.out.turn).1
      go_upto_region 8 with (go_at_call 49; (with_reducible refine (HOA.out wr (HTab.out wr HI.out.turn)).mono ?_); rintro e w2 ⟨p, b, vl, G', rfl, hj2, hn2, hg2, ho2, hb2⟩; obtain ⟨gp, rfl, -⟩ := JnL.form hj2; have hv2 := Blk.below HI.out.blk hb2 (Blk.lt HI.out.blk); have f12 := Blk.frozen hv2 1; have c12 := Blk.cell hv2 1; have HV2 := Lib.hid hv2; have HJ2 := Lib.hid hj2; have HG2 := Lib.hid hg2; have HO2 := Lib.hid ho2; have HB2 := Lib.hid hb2; clear hv2 hj2 hn2 hg2 ho2 hb2)
      obtain ⟨w3, hw3⟩ : ∃ z, z = w2.setCell ⟨g, 1, none⟩ (.pointer (some ⟨gp, 0, none⟩)) := ⟨_, rfl⟩
      rw [← hw3]
      have ht3 : Turn (· = g) w2 w3 := by rw [hw3]; exact set_turn _
      have hv3 : VBlk w3 g sv (.pointer (some ⟨gp, 0, none⟩)) fb u (-1) := by rw [hw3]; exact Blk.set_ HV2.out 1 _
      have hsz := HI.out.turn.size
      have hgl := HGL.out
      have hne : ∀ k, wr.heap.size ≤ k → ¬ k = g := fun k hk e => by omega
      have hj3 := jn_a.turn (jn_a.cap HJ2.out) ht3 fun k _ hk => hne k (HG2.out k hk.1)
      have ho3 : OwnR w3 _ _ _ := OwnK.turn HO2.out ht3 fun k hk => hne k (HO2.out.2.2 k hk).1
      have htt : Turn (fun k => k = g ∨ w.heap.size ≤ k) w w3 := (HI.out.turn.trans ((Turn.ofBelow HB2.out).mono fun k hk => .inr (Nat.le_trans hsz hk))).trans (ht3.mono fun k hk => .inl hk)
      have HS3 := Lib.hid (show wr.heap.size ≤ w2.heap.size ∧ w2.heap.size ≤ w3.heap.size ∧ w.heap.size ≤ wr.heap.size from ⟨HB2.out.size, ht3.size, hsz⟩)
      have HV3 := Lib.hid hv3
      have HJ3 := Lib.hid hj3
      have HO3 := Lib.hid ho3
      have HT3 := Lib.hid htt
      have HNX := Lib.hid (HNA.out _ _ (OwnR.rcv ho3))
      clear hw3 ht3 hv3 hsz hgl hne hj3 ho3 htt HOA HOB HNA HNB HBO f12 c12 k0
      by_cases hxx : 0 ≤ x
      · have hd : decide (0 ≤ x) = true := decide_eq_true (by omega)
        rw [hd] at HNX
        clear hd
        go_upto_region 9 with (go_at_call 60; (with_reducible refine HNX.out.mono ?_); rintro e w4 ⟨n4, rfl, hn4, hb4⟩; have hv4 := Blk.below HV3.out hb4 (Blk.lt HV3.out); have c44 := Blk.cell hv4 4; have c34 := Blk.cell hv4 3; have f44 := Blk.frozen hv4 4; have f34 := Blk.frozen hv4 3; have HV4 := Lib.hid hv4; have HB4 := Lib.hid hb4; have HN4 := Lib.hid hn4; clear hv4 hn4 hb4)
        obtain rfl := HN4.out (by omega)
        have hgt : n4 > -1 := by omega
        go_wp2_with fail
        have hv5 := Blk.set_ (Blk.set_ HV4.out 3 (.int .i64 0)) 4 (.int .i64 n4)
        have ht5 : Turn (fun k => k = g ∨ w3.heap.size ≤ k) w3 ((w4.setCell ⟨g, 3, none⟩ (.int .i64 0)).setCell ⟨g, 4, none⟩ (.int .i64 n4)) := ((Turn.ofBelow HB4.out).mono fun k hk => .inr hk).trans (((set_turn _).trans (set_turn _)).mono fun k hk => .inl hk)
        go_roundg 2
        case measure => omega
        case rel =>
          obtain ⟨hs1, hs2, hs3⟩ := HS3.out
          have hgl := HGL.out
          have hs5 := ht5.size
          have hj5 := jn_a.turn HJ3.out ht5 fun k hk hh e => e.elim (fun e => by have := HG2.out k hh.1; omega) fun e => by omega
          have ho5 : OwnR _ _ _ _ := OwnK.turn HO3.out ht5 fun k hk e => e.elim (fun e => by have := (HO3.out.2.2 k hk).1; omega) fun e => by have := OwnK.lt HO3.out hk; omega
          exact .inr (.inl ⟨by go_num, by omega, _, _, 0, JA.l, _, Lib.hid ⟨hv5, hj5, fun k hk => ⟨Nat.le_trans hs3 (HG2.out k hk.1), Nat.lt_of_lt_of_le hk.2 (by omega)⟩, ho5.place fun k hk => Nat.le_trans hs3 (ho5.2.2 k hk).1, HT3.out.trans (ht5.mono fun k hk => hk.imp id fun e => by omega), fun _ => ⟨rfl, rfl⟩⟩⟩)
      · have hd : decide (0 ≤ x) = false := decide_eq_false (by omega)
        rw [hd] at HNX
        clear hd
        go_upto_region 9 with (go_at_call 60; (with_reducible refine HNX.out.mono ?_); rintro e w4 ⟨n4, rfl, hn4, hb4⟩; have hv4 := Blk.below HV3.out hb4 (Blk.lt HV3.out); have c44 := Blk.cell hv4 4; have c34 := Blk.cell hv4 3; have f44 := Blk.frozen hv4 4; have f34 := Blk.frozen hv4 3; have HV4 := Lib.hid hv4; have HB4 := Lib.hid hb4; have HN4 := Lib.hid hn4; clear hv4 hn4 hb4)
        go_wp2_with fail
        have hv5 := HV4.out
        have ht5 : Turn (fun k => k = g ∨ w3.heap.size ≤ k) w3 w4 := (Turn.ofBelow HB4.out).mono fun k hk => .inr hk
        go_roundg 2
        case measure => omega
        case rel =>
          obtain ⟨hs1, hs2, hs3⟩ := HS3.out
          have hgl := HGL.out
          have hs5 := ht5.size
          have hj5 := jn_a.turn HJ3.out ht5 fun k hk hh e => e.elim (fun e => by have := HG2.out k hh.1; omega) fun e => by omega
          have ho5 : OwnR _ _ _ _ := OwnK.turn HO3.out ht5 fun k hk e => e.elim (fun e => by have := (HO3.out.2.2 k hk).1; omega) fun e => by have := OwnK.lt HO3.out hk; omega
          exact .inr (.inl ⟨by go_num, by omega, _, _, u, [], _, Lib.hid ⟨(show x = -1 by omega) ▸ hv5, hj5, fun k hk => ⟨Nat.le_trans hs3 (HG2.out k hk.1), Nat.lt_of_lt_of_le hk.2 (by omega)⟩, OwnK.nil _ _ _ _, HT3.out.trans (ht5.mono fun k hk => hk.imp id fun e => by omega), fun h => absurd h (by omega)⟩⟩)
    · have k0 := (HKC.out wr HI.out.turn).2
      go_upto_region 8 with (go_at_call 49; (with_reducible refine (HOB.out wr (HTab.out wr HI.out.turn)).mono ?_); rintro e w2 ⟨p, b, vl, G', rfl, hj2, hn2, hg2, ho2, hb2⟩; obtain ⟨gp, rfl, -⟩ := JnL.form hj2; have hv2 := Blk.below HI.out.blk hb2 (Blk.lt HI.out.blk); have f22 := Blk.frozen hv2 2; have c22 := Blk.cell hv2 2; have HV2 := Lib.hid hv2; have HJ2 := Lib.hid hj2; have HG2 := Lib.hid hg2; have HO2 := Lib.hid ho2; have HB2 := Lib.hid hb2; clear hv2 hj2 hn2 hg2 ho2 hb2)
      obtain ⟨w3, hw3⟩ : ∃ z, z = w2.setCell ⟨g, 2, none⟩ (.pointer (some ⟨gp, 0, none⟩)) := ⟨_, rfl⟩
      rw [← hw3]
      have ht3 : Turn (· = g) w2 w3 := by rw [hw3]; exact set_turn _
      have hv3 : VBlk w3 g sv pa (.pointer (some ⟨gp, 0, none⟩)) u1 x := by rw [hw3]; exact Blk.set_ HV2.out 2 _
      have hsz := HI.out.turn.size
      have hgl := HGL.out
      have hne : ∀ k, wr.heap.size ≤ k → ¬ k = g := fun k hk e => by omega
      have hj3 := jn_a.turn (jn_a.cap HJ2.out) ht3 fun k _ hk => hne k (HG2.out k hk.1)
      have ho3 : OwnR w3 _ _ _ := OwnK.turn HO2.out ht3 fun k hk => hne k (HO2.out.2.2 k hk).1
      have ha3 := jn_a.turn (jn_a.turn HI.out.ja (Turn.ofBelow HB2.out) fun _ hk _ => Nat.not_le.2 hk) ht3 fun k _ hk e => by have := (HI.out.a k hk).1; omega
      have hl3 : OwnR w3 _ _ _ := OwnK.turn (OwnK.next HI.out.own HB2.out) ht3 fun k hk e => by have h1 := HI.out.own.2.2 k hk; simp only at h1; omega
      have HA3 := Lib.hid ha3
      have HL3 := Lib.hid hl3
      have htt : Turn (fun k => k = g ∨ w.heap.size ≤ k) w w3 := (HI.out.turn.trans ((Turn.ofBelow HB2.out).mono fun k hk => .inr (Nat.le_trans hsz hk))).trans (ht3.mono fun k hk => .inl hk)
      have HS3 := Lib.hid (show wr.heap.size ≤ w2.heap.size ∧ w2.heap.size ≤ w3.heap.size ∧ w.heap.size ≤ wr.heap.size from ⟨HB2.out.size, ht3.size, hsz⟩)
      have HV3 := Lib.hid hv3
      have HJ3 := Lib.hid hj3
      have HO3 := Lib.hid ho3
      have HT3 := Lib.hid htt
      have HNX := Lib.hid (HNB.out _ _ (OwnR.rcv ho3))
      clear hw3 ht3 hv3 hsz hgl hne hj3 ho3 htt HOA HOB HNA HNB HBO f22 c22 k0 ha3 hl3
      by_cases hxy : x < y
      · have hd : decide (0 ≤ y) = true := decide_eq_true (by omega)
        rw [hd] at HNX
        clear hd
        go_upto_region 9 with (go_at_call 60; (with_reducible refine HNX.out.mono ?_); rintro e w4 ⟨n4, rfl, hn4, hb4⟩; have hv4 := Blk.below HV3.out hb4 (Blk.lt HV3.out); have c44 := Blk.cell hv4 4; have c34 := Blk.cell hv4 3; have f44 := Blk.frozen hv4 4; have f34 := Blk.frozen hv4 3; have HV4 := Lib.hid hv4; have HB4 := Lib.hid hb4; have HN4 := Lib.hid hn4; clear hv4 hn4 hb4)
        obtain rfl := HN4.out (by omega)
        have hgt : n4 > x := by omega
        go_wp2_with fail
        have hv5 := Blk.set_ (Blk.set_ HV4.out 3 (.int .i64 1)) 4 (.int .i64 n4)
        have ht5 : Turn (fun k => k = g ∨ w3.heap.size ≤ k) w3 ((w4.setCell ⟨g, 3, none⟩ (.int .i64 1)).setCell ⟨g, 4, none⟩ (.int .i64 n4)) := ((Turn.ofBelow HB4.out).mono fun k hk => .inr hk).trans (((set_turn _).trans (set_turn _)).mono fun k hk => .inl hk)
        go_roundg 1
        case measure => omega
        case rel =>
          obtain ⟨hs1, hs2, hs3⟩ := HS3.out
          have hgl := HGL.out
          have hs5 := ht5.size
          have hj5 := jn_a.turn HJ3.out ht5 fun k hk hh e => e.elim (fun e => by have := HG2.out k hh.1; omega) fun e => by omega
          have ha5 := jn_a.turn HA3.out ht5 fun k hk hh e => e.elim (fun e => by have := (HI.out.a k hh).1; omega) fun e => by omega
          have ho5 : OwnR _ _ _ _ := OwnK.turn HO3.out ht5 fun k hk e => e.elim (fun e => by have := (HO3.out.2.2 k hk).1; omega) fun e => by have := OwnK.lt HO3.out hk; omega
          have hl5 : OwnR _ _ _ _ := OwnK.turn HL3.out ht5 fun k hk e => e.elim (fun e => by have h1 := HL3.out.2.2 k hk; simp only at h1; omega) fun e => by have := OwnK.lt HL3.out hk; omega
          have hp := HPL.out (by omega)
          refine .inr (.inr ⟨by go_num, by omega, _, _, _, _, 1, n4, JB.l, A, _, Lib.hid ⟨hv5, ha5, hj5, fun k hk => ⟨(HI.out.a k hk).1, Nat.lt_of_lt_of_le (HI.out.a k hk).2 (by omega)⟩, fun k hk => ⟨Nat.le_trans hs3 (HG2.out k hk.1), Nat.lt_of_lt_of_le hk.2 (by omega)⟩, fun k ha hk => by have := (HI.out.a k ha).2; have := HG2.out k hk.1; omega, ho5.place fun k hk => Nat.le_trans hs3 (ho5.2.2 k hk).1, HT3.out.trans (ht5.mono fun k hk => hk.imp id fun e => by omega), ⟨fun h => absurd h (by omega), fun h => absurd (HNN.out.1 h) (by omega)⟩, fun _ => ⟨hp.1.symm, hp.2.1.symm, hp.2.2.symm⟩⟩⟩)
      · by_cases hyy : 0 ≤ y
        · have hd : decide (0 ≤ y) = true := decide_eq_true (by omega)
          rw [hd] at HNX
          clear hd
          go_upto_region 9 with (go_at_call 60; (with_reducible refine HNX.out.mono ?_); rintro e w4 ⟨n4, rfl, hn4, hb4⟩; have hv4 := Blk.below HV3.out hb4 (Blk.lt HV3.out); have c44 := Blk.cell hv4 4; have c34 := Blk.cell hv4 3; have f44 := Blk.frozen hv4 4; have f34 := Blk.frozen hv4 3; have HV4 := Lib.hid hv4; have HB4 := Lib.hid hb4; have HN4 := Lib.hid hn4; clear hv4 hn4 hb4)
          obtain rfl := HN4.out (by omega)
          have hgt : ¬ x < n4 := by omega
          go_wp2_with fail
          have hv5 := HV4.out
          have ht5 : Turn (fun k => k = g ∨ w3.heap.size ≤ k) w3 w4 := (Turn.ofBelow HB4.out).mono fun k hk => .inr hk
          go_roundg 1
          case measure => omega
          case rel =>
            obtain ⟨hs1, hs2, hs3⟩ := HS3.out
            have hgl := HGL.out
            have hs5 := ht5.size
            have hj5 := jn_a.turn HJ3.out ht5 fun k hk hh e => e.elim (fun e => by have := HG2.out k hh.1; omega) fun e => by omega
            have ha5 := jn_a.turn HA3.out ht5 fun k hk hh e => e.elim (fun e => by have := (HI.out.a k hh).1; omega) fun e => by omega
            have ho5 : OwnR _ _ _ _ := OwnK.turn HO3.out ht5 fun k hk e => e.elim (fun e => by have := (HO3.out.2.2 k hk).1; omega) fun e => by have := OwnK.lt HO3.out hk; omega
            have hl5 : OwnR _ _ _ _ := OwnK.turn HL3.out ht5 fun k hk e => e.elim (fun e => by have h1 := HL3.out.2.2 k hk; simp only at h1; omega) fun e => by have := OwnK.lt HL3.out hk; omega
            have hp := HPG.out (by omega)
            refine .inr (.inr ⟨by go_num, by omega, _, _, _, _, u1, x, L1, A, _, Lib.hid ⟨hv5, ha5, hj5, fun k hk => ⟨(HI.out.a k hk).1, Nat.lt_of_lt_of_le (HI.out.a k hk).2 (by omega)⟩, fun k hk => ⟨Nat.le_trans hs3 (HG2.out k hk.1), Nat.lt_of_lt_of_le hk.2 (by omega)⟩, fun k ha hk => by have := (HI.out.a k ha).2; have := HG2.out k hk.1; omega, hl5, HT3.out.trans (ht5.mono fun k hk => hk.imp id fun e => by omega), ⟨fun h => HNN.out.2 ⟨h, by omega⟩, fun h => (HNN.out.1 h).1⟩, fun h => ?_⟩⟩)
            have hxx : 0 ≤ x := by
              rcases Int.lt_or_le x 0 with h1 | h1
              · exact absurd (HNN.out.2 ⟨h1, by omega⟩) h
              · exact h1
            have hq := HI.out.pk hxx
            exact ⟨hq.1.trans hp.1.symm, hp.2.1.symm, hq.2.trans hp.2.2.symm⟩
        · have hd : decide (0 ≤ y) = false := decide_eq_false (by omega)
          rw [hd] at HNX
          clear hd
          go_upto_region 9 with (go_at_call 60; (with_reducible refine HNX.out.mono ?_); rintro e w4 ⟨n4, rfl, hn4, hb4⟩; have hv4 := Blk.below HV3.out hb4 (Blk.lt HV3.out); have c44 := Blk.cell hv4 4; have c34 := Blk.cell hv4 3; have f44 := Blk.frozen hv4 4; have f34 := Blk.frozen hv4 3; have HV4 := Lib.hid hv4; have HB4 := Lib.hid hb4; have HN4 := Lib.hid hn4; clear hv4 hn4 hb4)
          go_wp2_with fail
          have hv5 := HV4.out
          have ht5 : Turn (fun k => k = g ∨ w3.heap.size ≤ k) w3 w4 := (Turn.ofBelow HB4.out).mono fun k hk => .inr hk
          go_roundg 1
          case measure => omega
          case rel =>
            obtain ⟨hs1, hs2, hs3⟩ := HS3.out
            have hgl := HGL.out
            have hs5 := ht5.size
            have hj5 := jn_a.turn HJ3.out ht5 fun k hk hh e => e.elim (fun e => by have := HG2.out k hh.1; omega) fun e => by omega
            have ha5 := jn_a.turn HA3.out ht5 fun k hk hh e => e.elim (fun e => by have := (HI.out.a k hh).1; omega) fun e => by omega
            have ho5 : OwnR _ _ _ _ := OwnK.turn HO3.out ht5 fun k hk e => e.elim (fun e => by have := (HO3.out.2.2 k hk).1; omega) fun e => by have := OwnK.lt HO3.out hk; omega
            have hl5 : OwnR _ _ _ _ := OwnK.turn HL3.out ht5 fun k hk e => e.elim (fun e => by have h1 := HL3.out.2.2 k hk; simp only at h1; omega) fun e => by have := OwnK.lt HL3.out hk; omega
            have hp := HPG.out (by omega)
            refine .inr (.inr ⟨by go_num, by omega, _, _, _, _, u1, x, L1, A, _, Lib.hid ⟨hv5, ha5, hj5, fun k hk => ⟨(HI.out.a k hk).1, Nat.lt_of_lt_of_le (HI.out.a k hk).2 (by omega)⟩, fun k hk => ⟨Nat.le_trans hs3 (HG2.out k hk.1), Nat.lt_of_lt_of_le hk.2 (by omega)⟩, fun k ha hk => by have := (HI.out.a k ha).2; have := HG2.out k hk.1; omega, hl5, HT3.out.trans (ht5.mono fun k hk => hk.imp id fun e => by omega), ⟨fun h => HNN.out.2 ⟨h, by omega⟩, fun h => (HNN.out.1 h).1⟩, fun h => ?_⟩⟩)
            have hxx : 0 ≤ x := by
              rcases Int.lt_or_le x 0 with h1 | h1
              · exact absurd (HNN.out.2 ⟨h1, by omega⟩) h
              · exact h1
            have hq := HI.out.pk hxx
            exact ⟨hq.1.trans hp.1.symm, hp.2.1.symm, hq.2.trans hp.2.2.symm⟩
    · clear HOA HOB HNA HNB
      have c4 := HI.out.blk.c4
      by_cases hz : z < 0
      · have hN := HI.out.zn.1 hz
        have HN := Lib.hid hN
        have HEE := Lib.hid (show E = 4 by rw [HE.out, if_pos hN])
        clear hN
        go_wp2_with fail
        refine bodyPost_ret (results_tmp2 rfl _ _ _) rfl ⟨_, by rw [HEE.out]; rfl, HI.out.turn, .inl ⟨HN.out, rfl⟩⟩
      · have hN : ¬ noneV JA JB := fun h => hz (HI.out.zn.2 h)
        have hrc := OwnR.rcv HI.out.own
        rw [(HI.out.pk hN).2.2] at hrc
        have HBB := Lib.hid (HBO.out _ _ hrc)
        have HN := Lib.hid hN
        have HEE := Lib.hid (show E = 0 by rw [HE.out, if_neg hN])
        clear hN hrc HBO
        go_wp2_with (go_at_call 61; (with_reducible refine HBB.out.mono ?_); rintro e w9 ⟨m, rfl, hm, hb9⟩)
        have hsz := hb9.size
        have hPK := HI.out.pk HN.out
        have hblk := Blk.below HI.out.blk hb9 (Blk.lt HI.out.blk)
        rw [hPK.1, hPK.2.1] at hblk
        have htt := HI.out.turn.size
        refine bodyPost_ret (results_tmp2 rfl _ _ _) rfl ⟨m, by rw [HEE.out]; rfl, HI.out.turn.trans ((Turn.ofBelow hb9).mono fun k hk => .inr (Nat.le_trans htt hk)), .inr ⟨HN.out, pa, pb, ba, bb, A, B, hblk, jn_a.turn HI.out.ja (Turn.ofBelow hb9) fun _ hk _ => Nat.not_le.2 hk, jn_a.turn HI.out.jb (Turn.ofBelow hb9) fun _ hk _ => Nat.not_le.2 hk,
          fun k hk => ⟨(HI.out.a k hk).1, Nat.lt_of_lt_of_le (HI.out.a k hk).2 hsz⟩, fun k hk => ⟨(HI.out.b k hk).1, Nat.lt_of_lt_of_le (HI.out.b k hk).2 hsz⟩, HI.out.ab, hm.place fun k hk => ?_⟩⟩
        have h1 := hm.2.2 k hk
        exact ⟨Nat.le_trans htt h1, fun h => Nat.lt_irrefl _ (Nat.lt_of_lt_of_le (HI.out.a k h).2 h1), fun h => Nat.lt_irrefl _ (Nat.lt_of_lt_of_le (HI.out.b k h).2 h1)⟩
end Go.Proofs.YtkbbeioednhefaaGreatDoor.vt
