/-
  The walks of stage 5's laws, by what topic's functions answer.
-/
import Derived.Test.YtepddcihggdbdaaDoorTopr
import Derived.Test.YtepddcihggdbdaaDoorMemd
import Derived.Deep.RegionHeld3
import Derived.Deep.CutRange
import Derived.Deep.CutBlock
namespace Go.Proofs.YtepddcihggdbdaaDoor.topic
open Go.RowKit Go.Proofs.YtepddcihggdbdaaDoor.mem Go.Proofs.YtepddcihggdbdaaDoor.sha Go.Proofs.YtepddcihggdbdaaDoor.strx

/-- what the package answers: T is what it asks of the world (its tables, if it has any) -/
structure TopicIs (T : World → Prop) : Prop where
  next : ∀ {w w' : World}, T w → Below w.heap.size w w' → T w'
  check : ∀ (s : ByteArray) (w : World), T w → s.size ≤ 281474976710656 → Calls Tryd.prog 10 #[.string s] w fun e w' => e = .returned (.int .i64 (checkOf s.data.toList)) ∧ Below w.heap.size w w'
  kind : ∀ (s : ByteArray) (w : World), T w → s.size ≤ 281474976710656 → Calls Tryd.prog 8 #[.string s] w fun e w' => e = .returned (.int .i64 (kindOf s.data.toList)) ∧ Below w.heap.size w w'
  letter : ∀ (k : Int) (w : World), T w → Calls Tryd.prog 12 #[.int .i64 k] w fun e w' => e = .returned (.string (bt (letterOf k))) ∧ Below w.heap.size w w'
  name : ∀ (k : Int) (s : ByteArray) (w : World), T w → s.size ≤ 140737488351232 → Calls Tryd.prog 6 #[.int .i64 k, .string s] w fun e w' => e = .returned (.tuple #[.string (bt (nameOf k s.data.toList).1), .int .i64 (nameOf k s.data.toList).2]) ∧ Below w.heap.size w w'

theorem rletter_bt (k : Int) (w : World) : Calls Tryd.prog 13 #[.int .i64 k] w fun e w' => e = .returned (.string (bt (letterOf k))) ∧ w = w' := rletter_any k w
theorem likes : kindOf [99, 45, 108, 105, 107, 101, 115] = 1 := by decide +kernel
theorem noname : checkOf [120] = 9 := by decide +kernel
theorem below_of_drewN {w w' : World} (h : ∃ m, w' = w.drewN m) : Below w.heap.size w w' := by
  obtain ⟨m, rfl⟩ := h
  exact below_drewN (Below.refl _ _) m

set_option maxHeartbeats 1000000 in
set_option maxRecDepth 100000 in
theorem awake_any {T : World → Prop} (hI : TopicIs T) (w : World) (hT : T w) : Calls Tryd.prog 14 #[] w fun e w' => e = .returned (.bool true) ∧ Below w.heap.size w w' := by
  have HT := Lib.hid hT
  have HI := Lib.hid hI
  clear hT hI
  have hn : kindOf [99, 45, 108, 105, 107, 101, 115] = 1 := likes
  have hc : checkOf [120] = 9 := noname
  go_enter Tryd.func14, Tryd.ntmps14
  go_wp2_with (first
    | (go_at_call 8; refine (HI.out.kind ⟨#[99, 45, 108, 105, 107, 101, 115]⟩ _ HT.out (by decide)).mono ?_; rintro e w1 ⟨rfl, hb1⟩)
    | (go_at_call 10; refine (HI.out.check ⟨#[120]⟩ _ (HI.out.next HT.out (by exact hb1)) (by decide)).mono ?_; rintro e w2 ⟨rfl, hb2⟩))
  go_ret
  exact ⟨rfl, hb1.trans (hb2.mono hb1.size)⟩

set_option maxHeartbeats 2000000 in
set_option maxRecDepth 100000 in
theorem plays_walk {T : World → Prop} (hI : TopicIs T) (s r : ByteArray) (k : Int) (w : World) (hT : T w) (hs : s.size ≤ 140737488351232) (hr : r.size ≤ 140737488351232) :
    Calls Tryd.prog 3 #[.string s, .int .i64 k, .string r] w fun e w' => e = .returned (.bool true) ∧ Below w.heap.size w w' := by
  have HT := Lib.hid hT
  have HI := Lib.hid hI
  have HS := Lib.hid hs
  have HR := Lib.hid hr
  clear hT hI hs hr
  go_enter Tryd.func3, Tryd.ntmps3
  go_wp2_with (first
    | (go_at_call 6; refine (HI.out.name k r _ HT.out HR.out).mono ?_; rintro e w1 ⟨rfl, hb1⟩; have hT1 := HI.out.next HT.out hb1)
    | (go_at_call 7; refine (rname_any k r _ (by have := HR.out; omega)).mono ?_; rintro e w2 ⟨rfl, hd2⟩; have hb2 := below_of_drewN hd2; have hT2 := HI.out.next hT1 hb2)
    | (go_at_call 8; refine (HI.out.kind s _ hT2 (by have := HS.out; omega)).mono ?_; rintro e w3 ⟨rfl, hb3⟩; have hT3 := HI.out.next hT2 hb3)
    | (go_at_call 9; refine (rkind_any s _ (by have := HS.out; omega)).mono ?_; rintro e w4 ⟨rfl, hd4⟩; have hb4 := below_of_drewN hd4; have hT4 := HI.out.next hT3 hb4)
    | (go_at_call 10; refine (HI.out.check s _ hT4 (by have := HS.out; omega)).mono ?_; rintro e w5 ⟨rfl, hb5⟩; have hT5 := HI.out.next hT4 hb5)
    | (go_at_call 11; refine (rcheck_any s _ (by have := HS.out; omega)).mono ?_; rintro e w6 ⟨rfl, hd6⟩; have hb6 := below_of_drewN hd6; have hT6 := HI.out.next hT5 hb6)
    | (go_at_call 12; refine (HI.out.letter k _ hT6).mono ?_; rintro e w7 ⟨rfl, hb7⟩; have hT7 := HI.out.next hT6 hb7)
    | (go_at_call 13; refine (rletter_bt k _).mono ?_; rintro e w8 ⟨rfl, rfl⟩)
    | (go_at_call 14; refine (awake_any HI.out _ hT7).mono ?_; rintro e w9 ⟨rfl, hb9⟩))
  go_ret
  have c2 := hb1.trans (hb2.mono hb1.size)
  have c3 := c2.trans (hb3.mono c2.size)
  have c4 := c3.trans (hb4.mono c3.size)
  have c5 := c4.trans (hb5.mono c4.size)
  have c6 := c5.trans (hb6.mono c5.size)
  have c7 := c6.trans (hb7.mono c6.size)
  exact ⟨rfl, c7.trans (hb9.mono c7.size)⟩

theorem TopicIs.kindL {T : World → Prop} (hI : TopicIs T) (l : List UInt8) (u : World) (h : T u) (hl : l.length ≤ 281474976710656) : Calls Tryd.prog 8 #[.string (bt l)] u fun e w' => e = .returned (.int .i64 (kindOf l)) ∧ Below u.heap.size u w' :=
  hI.kind (bt l) u h (by rw [bt_size]; exact hl)
theorem TopicIs.checkL {T : World → Prop} (hI : TopicIs T) (l : List UInt8) (u : World) (h : T u) (hl : l.length ≤ 281474976710656) : Calls Tryd.prog 10 #[.string (bt l)] u fun e w' => e = .returned (.int .i64 (checkOf l)) ∧ Below u.heap.size u w' :=
  hI.check (bt l) u h (by rw [bt_size]; exact hl)
theorem TopicIs.nameL {T : World → Prop} (hI : TopicIs T) (k : Int) (l : List UInt8) (u : World) (h : T u) (hl : l.length ≤ 140737488351232) : Calls Tryd.prog 6 #[.int .i64 k, .string (bt l)] u fun e w' => e = .returned (.tuple #[.string (bt (nameOf k l).1), .int .i64 (nameOf k l).2]) ∧ Below u.heap.size u w' :=
  hI.name k (bt l) u h (by rw [bt_size]; exact hl)
theorem bt_beq (a b : List UInt8) : ((bt a).toList == (bt b).toList) = decide (a = b) := by
  have ha : (bt a).toList = a := ByteArray.toList_eq _
  have hb : (bt b).toList = b := ByteArray.toList_eq _
  rw [ha, hb, Bool.eq_iff_iff, beq_iff_eq, decide_eq_true_iff]

set_option maxHeartbeats 4000000 in
set_option maxRecDepth 100000 in
theorem back_walk {T : World → Prop} (hI : TopicIs T) (l : List UInt8) (k : Int) (w : World) (hT : T w) (hs : l.length ≤ 140737488351232) :
    Calls Tryd.prog 4 #[.string (bt l), .int .i64 k] w fun e w' => e = .returned (.bool true) ∧ Below w.heap.size w w' := by
  have HT := Lib.hid hT
  have HI := Lib.hid hI
  have H1 := Lib.hid (HI.out.kindL l _ HT.out (by omega))
  have H2 : Hid (∀ u : World, T u → Calls Tryd.prog 10 #[.string (bt l)] u fun e w' => e = .returned (.int .i64 (checkOf l)) ∧ Below u.heap.size u w') := Lib.hid fun u h => HI.out.checkL l u h (by omega)
  clear hT hI
  by_cases h0 : kindOf l = 0
  · have hc : checkOf l = 9 := by unfold checkOf; rw [if_pos h0]
    rw [h0] at H1
    rw [hc] at H2
    clear hs hc h0
    go_enter Tryd.func4, Tryd.ntmps4
    go_wp2_with (first
      | (go_at_call 8; with_reducible refine H1.out.mono ?_; rintro e w1 ⟨rfl, hb1⟩; have hT1 := HI.out.next HT.out hb1)
      | (go_at_call 10; with_reducible refine (H2.out _ hT1).mono ?_; rintro e w2 ⟨rfl, hb2⟩; have hT2 := HI.out.next hT1 hb2)
      | (go_at_call 14; refine (awake_any HI.out _ hT2).mono ?_; rintro e w3 ⟨rfl, hb3⟩))
    go_ret
    have c2 := hb1.trans (hb2.mono hb1.size)
    exact ⟨rfl, c2.trans (hb3.mono c2.size)⟩
  · have hc : checkOf l = 0 := by unfold checkOf; rw [if_neg h0]
    obtain ⟨g1, g2, -, -, -⟩ := kindOf_pos _ h0
    have hk5 := kindOf_le l
    have hsl : ∀ u : World, (Instr.sliceAt 9 (.string (bt l)) (some (.int .i64 1)) none none).run Tryd.prog u = .ok (.string (bt (l.drop 1))) u := fun u => run_slice_str (bt l) 1 (by rw [bt_size]; omega) u
    have hb := nameOf_back _ h0
    have hin := nameOf_in k _ h0
    have hout := nameOf_out k (l.drop 1)
    obtain ⟨n, hn⟩ : ∃ n, n = kindOf l := ⟨_, rfl⟩
    rw [← hn] at H1 h0 hk5 hb hin
    rw [hc] at H2
    have H3 : Hid (∀ u : World, T u → Calls Tryd.prog 6 #[.int .i64 n, .string (bt (l.drop 1))] u fun e w' => e = .returned (.tuple #[.string (bt l), .int .i64 0]) ∧ Below u.heap.size u w') := Lib.hid fun u h => by
      have := HI.out.nameL n (l.drop 1) u h (by rw [List.length_drop]; omega)
      rw [hb] at this
      exact this
    have H4 : Hid (∀ u : World, T u → Calls Tryd.prog 6 #[.int .i64 k, .string (bt (l.drop 1))] u fun e w' => e = .returned (.tuple #[.string (bt (nameOf k (l.drop 1)).1), .int .i64 (nameOf k (l.drop 1)).2]) ∧ Below u.heap.size u w') := Lib.hid fun u h =>
      HI.out.nameL k (l.drop 1) u h (by rw [List.length_drop]; omega)
    have hn0 : ((n : Int) == 0) = false := beq_eq_false_iff_ne.2 (by omega)
    obtain ⟨t, ht⟩ : ∃ t, t = l.drop 1 := ⟨_, rfl⟩
    rw [← ht] at hsl H3 H4 hout hin
    have htl : t.length ≤ 11 := by rw [ht, List.length_drop]; omega
    by_cases hk : 1 ≤ k ∧ k ≤ 5
    · obtain ⟨k1, k5⟩ := hk
      obtain ⟨e1, e2, e3⟩ := hin k1 k5
      have hle := letterOf_len k
      rw [e1] at H4
      obtain ⟨m, hm⟩ : ∃ m, m = letterOf k ++ t := ⟨_, rfl⟩
      have hml : m.length ≤ 20 := by rw [hm, List.length_append]; omega
      rw [← hm] at H4 e2 e3
      have H5 : Hid (∀ u : World, T u → Calls Tryd.prog 8 #[.string (bt m)] u fun e w' => e = .returned (.int .i64 k) ∧ Below u.heap.size u w') := Lib.hid fun u h => by
        have := HI.out.kindL m u h (by omega)
        rw [e2] at this
        exact this
      have hxs : ((bt m).toList == (bt l).toList) = (k == (n : Int)) := by
        rw [bt_beq, Bool.eq_iff_iff, decide_eq_true_iff, beq_iff_eq]
        exact e3
      clear hs hc hn hb hin hout hm e1 hml hle e2 e3 g1 g2 ht htl
      go_enter Tryd.func4, Tryd.ntmps4
      go_wp2_with (first
        | (go_at_call 8; with_reducible refine H1.out.mono ?_; rintro e w1 ⟨rfl, hb1⟩; have hT1 := HI.out.next HT.out hb1)
        | (go_at_call 6; with_reducible refine (H3.out _ hT1).mono ?_; rintro e w2 ⟨rfl, hb2⟩; have hT2 := HI.out.next hT1 hb2)
        | (go_at_call 6; with_reducible refine (H4.out _ hT2).mono ?_; rintro e w3 ⟨rfl, hb3⟩; have hT3 := HI.out.next hT2 hb3)
        | (go_at_call 10; with_reducible refine (H2.out _ hT3).mono ?_; rintro e w4 ⟨rfl, hb4⟩; have hT4 := HI.out.next hT3 hb4)
        | (go_at_call 8; with_reducible refine (H5.out _ hT4).mono ?_; rintro e w5 ⟨rfl, hb5⟩; have hT5 := HI.out.next hT4 hb5)
        | (go_at_call 14; refine (awake_any HI.out _ hT5).mono ?_; rintro e w6 ⟨rfl, hb6⟩))
      go_ret
      have c2 := hb1.trans (hb2.mono hb1.size)
      have c3 := c2.trans (hb3.mono c2.size)
      have c4 := c3.trans (hb4.mono c3.size)
      have c5 := c4.trans (hb5.mono c4.size)
      exact ⟨rfl, c5.trans (hb6.mono c5.size)⟩
    · have hko : k < 1 ∨ 5 < k := by omega
      rw [hout hko] at H4
      clear hs hc hn hb hin hout htl ht g1 g2 hk
      have hnil : (bt []).toList = [] := ByteArray.toList_eq _
      rcases hko with hk | hk
      · go_enter Tryd.func4, Tryd.ntmps4
        go_wp2_with (first
          | (go_at_call 8; with_reducible refine H1.out.mono ?_; rintro e w1 ⟨rfl, hb1⟩; have hT1 := HI.out.next HT.out hb1)
          | (go_at_call 6; with_reducible refine (H3.out _ hT1).mono ?_; rintro e w2 ⟨rfl, hb2⟩; have hT2 := HI.out.next hT1 hb2)
          | (go_at_call 6; with_reducible refine (H4.out _ hT2).mono ?_; rintro e w3 ⟨rfl, hb3⟩; have hT3 := HI.out.next hT2 hb3)
          | (go_at_call 10; with_reducible refine (H2.out _ hT3).mono ?_; rintro e w4 ⟨rfl, hb4⟩; have hT4 := HI.out.next hT3 hb4)
          | (go_at_call 14; refine (awake_any HI.out _ hT4).mono ?_; rintro e w6 ⟨rfl, hb6⟩))
        go_ret
        have c2 := hb1.trans (hb2.mono hb1.size)
        have c3 := c2.trans (hb3.mono c2.size)
        have c4 := c3.trans (hb4.mono c3.size)
        exact ⟨rfl, c4.trans (hb6.mono c4.size)⟩
      · have hk1 : 1 ≤ k := by omega
        have hkd : decide (k ≤ 5) = false := decide_eq_false (by omega)
        go_enter Tryd.func4, Tryd.ntmps4
        go_wp2_with (first
          | (go_at_call 8; with_reducible refine H1.out.mono ?_; rintro e w1 ⟨rfl, hb1⟩; have hT1 := HI.out.next HT.out hb1)
          | (go_at_call 6; with_reducible refine (H3.out _ hT1).mono ?_; rintro e w2 ⟨rfl, hb2⟩; have hT2 := HI.out.next hT1 hb2)
          | (go_at_call 6; with_reducible refine (H4.out _ hT2).mono ?_; rintro e w3 ⟨rfl, hb3⟩; have hT3 := HI.out.next hT2 hb3)
          | (go_at_call 10; with_reducible refine (H2.out _ hT3).mono ?_; rintro e w4 ⟨rfl, hb4⟩; have hT4 := HI.out.next hT3 hb4)
          | (go_at_call 14; refine (awake_any HI.out _ hT4).mono ?_; rintro e w6 ⟨rfl, hb6⟩))
        go_ret
        have c2 := hb1.trans (hb2.mono hb1.size)
        have c3 := c2.trans (hb3.mono c2.size)
        have c4 := c3.trans (hb4.mono c3.size)
        exact ⟨rfl, c4.trans (hb6.mono c4.size)⟩

set_option maxHeartbeats 4000000 in
set_option maxRecDepth 100000 in
theorem bytes_walk {T : World → Prop} (hI : TopicIs T) (l : List UInt8) (at_ : Int) (c : UInt8) (w : World) (hT : T w) (hs : l.length ≤ 140737488351232) (a0 : 0 ≤ at_) (a1 : at_ ≤ 255) :
    Calls Tryd.prog 5 #[.string (bt l), .int .u8 at_, .int .u8 (B c)] w fun e w' => e = .returned (.bool true) ∧ Below w.heap.size w w' := by
  have HT := Lib.hid hT
  have HI := Lib.hid hI
  have H1 := Lib.hid (HI.out.kindL l _ HT.out (by omega))
  clear hT hI
  by_cases h0 : kindOf l = 0
  · rw [h0] at H1
    clear hs h0
    go_enter Tryd.func5, Tryd.ntmps5
    go_wp2_with (first
      | (go_at_call 8; with_reducible refine H1.out.mono ?_; rintro e w1 ⟨rfl, hb1⟩; have hT1 := HI.out.next HT.out hb1)
      | (go_at_call 14; refine (awake_any HI.out _ hT1).mono ?_; rintro e w3 ⟨rfl, hb3⟩))
    go_ret
    exact ⟨rfl, hb1.trans (hb3.mono hb1.size)⟩
  obtain ⟨g1, g2, -, -, -⟩ := kindOf_pos _ h0
  obtain ⟨k, hk⟩ : ∃ k, k = kindOf l := ⟨_, rfl⟩
  rw [← hk] at H1
  have hk0 : ((k : Int) == 0) = false := beq_eq_false_iff_ne.2 (by omega)
  obtain ⟨n, hn⟩ : ∃ n, n = l.length := ⟨_, rfl⟩
  have hlen : ((bt l).size : Int) = (n : Int) := by rw [bt_size, hn]
  obtain ⟨i, hf⟩ : ∃ f : Nat, at_ % (n : Int) = (f : Int) := ⟨(at_ % (n : Int)).toNat, (Int.toNat_of_nonneg (Int.emod_nonneg _ (by omega))).symm⟩
  have hf2 : (i : Int) < (n : Int) := by rw [← hf]; exact Int.emod_lt_of_pos _ (by omega)
  have hft : at_.tmod (n : Int) = (i : Int) := by rw [Int.tmod_eq_emod_of_nonneg a0]; exact hf
  have f0 : (0 : Int) ≤ (i : Int) := Int.natCast_nonneg _
  have hz : ((n : Int) == 0) = false := beq_eq_false_iff_ne.2 (by omega)
  have HW : Hid ((checkOf (l.set i c) == 0) = wantAt c i n) := Lib.hid (by rw [hn]; exact bytes_of l i c h0 (by omega))
  have H2 : Hid (∀ u : World, T u → Calls Tryd.prog 10 #[.string (bt (l.set i c))] u fun e w' => e = .returned (.int .i64 (checkOf (l.set i c))) ∧ Below u.heap.size u w') := Lib.hid fun u h => HI.out.checkL _ u h (by rw [List.length_set]; omega)
  have HL := Lib.hid hn
  have hbn := B_nonneg c
  have n2 : (2 : Int) ≤ (n : Int) := by omega
  have n12 : (n : Int) ≤ 12 := by omega
  clear h0 hk g1 g2 hs hf hn
  go_enter Tryd.func5, Tryd.ntmps5
  go_upto_region 4 with (first
    | (go_at_call 8; with_reducible refine H1.out.mono ?_; rintro e w1 ⟨rfl, hb1⟩; have hT1 := HI.out.next HT.out hb1))
  obtain ⟨v0, w2, hcv, hO1, hb2⟩ := run_to_bytes w1 (w1.heap.size ≤ ·) (bt l) (fun _ hk => hk)
  obtain ⟨g, cc, rfl, hg1, hg2⟩ := hO1.lt
  rw [bt_list] at hO1 hcv
  obtain ⟨hfr, hO2, ht2⟩ := ownB_set hO1 i (by have := HL.out; omega) c
  obtain ⟨cv, hcv2⟩ : ∃ v, w2.cell? ⟨g, i, none⟩ = some v := ⟨_, hO1.cell i (by have := HL.out; omega)⟩
  rw [← HL.out] at hcv hO2
  have HO := Lib.hid hO2
  have HB : Hid (Below w.heap.size w (w2.setCell ⟨g, i, none⟩ (.int .u8 (B c)))) := Lib.hid (hb1.trans ((hb2.trans (ht2.below (fun _ h => h))).mono hb1.size))
  clear hO1 hO2 ht2 hb2 hb1 H1
  go_upto_region 6 with fail
  obtain ⟨w3, hw3⟩ : ∃ x, x = w2.setCell ⟨g, i, none⟩ (.int .u8 (B c)) := ⟨_, rfl⟩
  refine wp_at hw3.symm ?_
  rw [← hw3] at HO HB
  clear hcv hcv2 hfr hw3 hg1 hg2
  obtain ⟨b45, hb45⟩ : ∃ b, (B c == 45) = b := ⟨_, rfl⟩
  obtain ⟨b99, hb99⟩ : ∃ b, (B c == 99) = b := ⟨_, rfl⟩
  obtain ⟨b115, hb115⟩ : ∃ b, (B c == 115) = b := ⟨_, rfl⟩
  obtain ⟨b108, hb108⟩ : ∃ b, (B c == 108) = b := ⟨_, rfl⟩
  obtain ⟨b109, hb109⟩ : ∃ b, (B c == 109) = b := ⟨_, rfl⟩
  obtain ⟨b114, hb114⟩ : ∃ b, (B c == 114) = b := ⟨_, rfl⟩
  obtain ⟨bi0, hbi0⟩ : ∃ b, ((i : Int) == 0) = b := ⟨_, rfl⟩
  have HSM : Hid (smallAt c i n = ((decide (97 ≤ B c) && decide (B c ≤ 122)) || (decide (48 ≤ B c) && decide (B c ≤ 57)) || (b45 && decide ((i : Int) < (n : Int) - 1)))) := Lib.hid (by rw [← hb45]; rfl)
  have HFI : Hid (isFirst c = (b99 || b115 || b108 || b109 || b114)) := Lib.hid (by rw [← hb99, ← hb115, ← hb108, ← hb109, ← hb114]; rfl)
  have HWA : Hid (wantAt c i n = ((bi0 && isFirst c) || (decide ((0 : Int) < i) && smallAt c i n))) := Lib.hid (by rw [← hbi0]; rfl)
  have HI0 : Hid (bi0 = false ↔ (0 : Int) < i) := Lib.hid (by rw [← hbi0, beq_eq_false_iff_ne]; omega)
  obtain ⟨sm, hsm⟩ : ∃ x, x = smallAt c i n := ⟨_, rfl⟩
  obtain ⟨fi, hfi⟩ : ∃ x, x = isFirst c := ⟨_, rfl⟩
  obtain ⟨wa, hwa⟩ : ∃ x, x = wantAt c i n := ⟨_, rfl⟩
  rw [← hsm] at HSM HWA
  rw [← hfi] at HFI HWA
  rw [← hwa] at HWA HW
  clear hsm hfi hwa
  go_cut [9] from 27 to 51 (fun v wx => v = .bool sm ∧ wx = w3)
  case first =>
    clear HFI HWA HI0
    go_wp2_with fail
    all_goals go_meet
    all_goals refine ⟨?_, rfl⟩
    all_goals rw [HSM.out]
    all_goals first
      | rfl
      | (simp [*]; done)
      | (congr 1; rw [Bool.eq_iff_iff]; simp only [*, Bool.or_eq_true, Bool.and_eq_true, decide_eq_true_eq, Bool.false_eq_true, false_and, or_false, true_and]; refine ⟨fun h => ?_, fun h => ?_⟩ <;> first | exact h.elim | omega)
  case rest =>
    obtain ⟨rfl, rfl⟩ := hcut
    clear HSM
    go_upto_region 7 with fail
    go_cut [10] from 52 to 69 (fun v wx => v = .bool fi ∧ wx = wc)
    case first =>
      clear HWA HI0
      go_wp2_with fail
      all_goals go_meet
      all_goals refine ⟨?_, rfl⟩
      all_goals rw [HFI.out]
      all_goals first
        | rfl
        | (simp [*]; done)
    case rest =>
      obtain ⟨rfl, hwc⟩ := hcut
      subst hwc
      clear HFI
      go_upto_region 8 with fail
      go_cut [11] from 70 to 81 (fun v wx => v = .bool wa ∧ wx = wc)
      case first =>
        by_cases hi : (0 : Int) < i
        · obtain rfl := HI0.out.2 hi
          have hd : decide ((0 : Int) < i) = true := decide_eq_true hi
          have hw := HWA.out
          rw [hd] at hw
          clear HWA HI0 HW
          cases fi <;> cases sm <;> simp only [Bool.false_and, Bool.true_and, Bool.false_or] at hw <;> subst hw
          all_goals
            go_wp2_with fail
            go_meet
            exact ⟨rfl, rfl⟩
        · obtain rfl : bi0 = true := by cases hb : bi0; exact absurd (HI0.out.1 hb) hi; rfl
          have hd : decide ((0 : Int) < i) = false := decide_eq_false hi
          have hi' : (i : Int) ≤ 0 := by omega
          have hw := HWA.out
          rw [hd] at hw
          clear HWA HI0 HW
          cases fi <;> cases sm <;> simp only [Bool.false_and, Bool.true_and, Bool.or_false] at hw <;> subst hw
          all_goals
            go_wp2_with fail
            go_meet
            exact ⟨rfl, rfl⟩
      case rest =>
        obtain ⟨rfl, hwc⟩ := hcut
        subst hwc
        have hstr := str_ownB HO.out (by rw [List.length_set]; exact HL.out.symm)
        have hstr' : (convert 33 9 (.slice (some ⟨g, 0, none⟩) n cc)).run Tryd.prog wc = .ok (.string (bt (l.set i c))) wc := hstr
        have HT3 : Hid (T wc) := Lib.hid (HI.out.next HT.out HB.out)
        obtain ⟨ck, hck⟩ : ∃ x, x = checkOf (l.set i c) := ⟨_, rfl⟩
        obtain ⟨L, hL⟩ : ∃ x, x = l.set i c := ⟨_, rfl⟩
        have hw := HW.out
        rw [← hck] at hw H2
        rw [← hL] at hstr' H2
        clear hck hL hstr HO HW HWA HI0 hbi0 hb45 hb99 hb115 hb108 hb109 hb114
        cases wa
        all_goals
          go_wp2_with (first
            | (go_at_call 10; with_reducible refine (H2.out _ HT3.out).mono ?_; rintro e w4 ⟨rfl, hb4⟩; have hT4 := HI.out.next HT3.out hb4)
            | (go_at_call 14; refine (awake_any HI.out _ hT4).mono ?_; rintro e w6 ⟨rfl, hb6⟩))
          go_ret
          have c4 := HB.out.trans (hb4.mono HB.out.size)
          exact ⟨rfl, c4.trans (hb6.mono c4.size)⟩
end Go.Proofs.YtepddcihggdbdaaDoor.topic
