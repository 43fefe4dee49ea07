/-
 chain: headers made one behind the other.
-/
import Derived.Test.YtpeneeddfgmjpaaGreatDoorRuis
import Derived.Test.YtpeneeddfgmjpaaGreatDoorExh
import Derived.Test.YtpeneeddfgmjpaaGreatDoorRutl
namespace Go.Proofs.YtpeneeddfgmjpaaGreatDoor.rul
open Go.RowKit Go.Proofs.YtpeneeddfgmjpaaGreatDoor.mem Go.Proofs.YtpeneeddfgmjpaaGreatDoor.sha Go.Proofs.YtpeneeddfgmjpaaGreatDoor.ids Go.Proofs.YtpeneeddfgmjpaaGreatDoor.rows Go.Proofs.YtpeneeddfgmjpaaGreatDoor.hdr Go.Proofs.YtpeneeddfgmjpaaGreatDoor.hds
open Go.Proofs.YtpeneeddfgmjpaaGreatDoor.opn (zid)

theorem zid_lit : idv zid = .agg #[.int .u8 0, .int .u8 0, .int .u8 0, .int .u8 0, .int .u8 0, .int .u8 0, .int .u8 0, .int .u8 0, .int .u8 0, .int .u8 0, .int .u8 0, .int .u8 0, .int .u8 0, .int .u8 0, .int .u8 0, .int .u8 0, .int .u8 0, .int .u8 0, .int .u8 0, .int .u8 0, .int .u8 0, .int .u8 0, .int .u8 0, .int .u8 0, .int .u8 0, .int .u8 0, .int .u8 0, .int .u8 0, .int .u8 0, .int .u8 0, .int .u8 0, .int .u8 0] := rfl
/-- bytes that were told -/
def ByV (w : World) (ad : Option Addr) (n : Nat) (t : Nat → Int) : Prop := ∀ i, i < n → ∃ b off, ad = some ⟨b, off, none⟩ ∧ b < w.heap.size ∧ w.cell? ⟨b, off + i, none⟩ = some (.int .u8 (t i)) ∧ 0 ≤ t i ∧ t i ≤ 255
theorem ByV.next {w w' : World} {ad : Option Addr} {n : Nat} {t : Nat → Int} (h : ByV w ad n t) (hb : Below w.heap.size w w') : ByV w' ad n t := fun i hi => by
 obtain ⟨b, off, e, hlt, hc, h0, h1⟩ := h i hi
 refine ⟨b, off, e, Nat.lt_of_lt_of_le hlt hb.size, ?_, h0, h1⟩
 rw [(Turn.ofBelow hb).cell (by omega)]
 exact hc
theorem check_par {h : Hd} (h0 : checkH h = 0) : h.parents.length ≤ 4 := by
 by_cases hc : 4 < h.parents.length
 ·
  unfold checkH at h0
  rw [if_pos hc] at h0
  cases h0
 ·
  omega
theorem made_topic (K : List Hd) (t : List UInt8) (a q z : Int) (c : Id) : (madeR K t a q z c).topic = t := rfl
theorem ca_kind : topic.kindOf [99, 97] ≠ 0 := by decide +kernel
/-- what has been made so far -/
structure ChS (T : World → Prop) (w0 : World) (kv : Value) (P : HP) (i : Nat) (w : World) : Prop where
 t : T w
 own : OwnH w (w0.heap.size ≤ ·) kv P
 good : ∀ p ∈ P, checkH p.1 = 0 ∧ p.1.height ≤ (i : Int) ∧ p.1.topic = [99, 97]
 len : P.length = i
 below : Below w0.heap.size w0 w
section
variable {T : World → Prop} {w0 w w' : World} {kv : Value} {P : HP} {i : Nat}
theorem ChS.next (hI : RuIs T) (h : ChS T w0 kv P i w) (hb : Below w.heap.size w w') : ChS T w0 kv P i w' :=
 ⟨hI.next h.t hb, h.own.next hb, h.good, h.len, h.below.trans (hb.mono h.below.size)⟩
theorem ChS.few (h : ChS T w0 kv P i w) : Few P := fun p hp => by
 have := h.good p hp
 have h2 := check_par this.1
 rw [this.2.2]
 exact ⟨by omega, by decide⟩
theorem ChS.hsv (h : ChS T w0 kv P i w) (hi : i ≤ 10) : HsV w kv P := h.own.hsv (by have := h.len; omega)
end
/-- one more header behind some of those that were made -/
theorem made_one {T : World → Prop} {w0 w : World} {kv : Value} {P Q : HP} {i : Nat} (h : ChS T w0 kv P i w) (hQ : ∀ q ∈ Q, q ∈ P) (hi : i < 10) {sq : Int} (h0 : 0 ≤ sq) (h1 : sq ≤ 255) {G : Hd} {er : Int} (hn : nextR (hs Q) [99, 97] (i : Int) (1 + sq) 1 zid = (G, er)) :
  er = 0 ∧ checkH G = 0 ∧ G.height ≤ ((i + 1 : Nat) : Int) ∧ G.topic = [99, 97] ∧ unknownR G (hs P) = [] ∧ (verdictL G (hs P) ≠ 0 → Twin (hs P)) ∧
  ∀ M, (∀ a ∈ M, a ∈ hs P) → ¬ Twin (hs P) → verdictL G M = if unknownR G M = [] then 0 else 11 := by
 have hg : ∀ a ∈ hs P, checkH a = 0 ∧ a.height ≤ (i : Int) := fun a ha => by
  obtain ⟨p, hp, rfl⟩ := List.mem_map.1 ha
  exact ⟨(h.good p hp).1, (h.good p hp).2.1⟩
 have hqp : ∀ a ∈ hs Q, a ∈ hs P := fun a ha => by
  obtain ⟨p, hp, rfl⟩ := List.mem_map.1 ha
  exact List.mem_map_of_mem (hQ p hp)
 obtain ⟨e1, e2, e3, S, hS, e4, e5⟩ := made_good (heads := hs Q) (fun a ha => (hg a (hqp a ha)).1) (B := (i : Int)) (by omega) (by omega) (fun a ha => (hg a (hqp a ha)).2) (t := [99, 97]) (a := (i : Int)) (q := 1 + sq) (z := 1) (c := zid) ca_kind (by omega)
 rw [e1] at hn
 injection hn with g1 g2
 subst g1
 have hK : ∀ a ∈ hs P, checkH a = 0 := fun a ha => (hg a ha).1
 have hSP : ∀ s ∈ S, s ∈ hs P := fun s hs => hqp s (hS s hs)
 have hun := unknown_none hK hSP e5
 refine ⟨g2.symm, e2, by push_cast; exact e3, rfl, hun, fun hv => ?_, fun M hM ht => verdictL_sub e2 hK hSP e4 e5 hM ht⟩
 by_cases ht : Twin (hs P)
 ·
  exact ht
 ·
  rw [verdictL_sub e2 hK hSP e4 e5 (fun a ha => ha) ht, if_pos hun] at hv
  exact absurd rfl hv

/-- what stands while the made one is looked at -/
structure MdS (T : World → Prop) (w0 : World) (kv : Value) (P : HP) (i g : Nat) (G : Hd) (u : Value) (w : World) : Prop where
 c : ChS T w0 kv P i w
 b : Blk w g 26 (hdc G u).toArray
 p : RdV w u G.parents
theorem MdS.next {T : World → Prop} (hI : RuIs T) {w0 w w' : World} {kv : Value} {P : HP} {i g : Nat} {G : Hd} {u : Value} (h : MdS T w0 kv P i g G u w) (hb : Below w.heap.size w w') : MdS T w0 kv P i g G u w' :=
 ⟨h.c.next hI hb, h.b.below hb h.b.lt, h.p.next hb⟩
theorem take_hs (P : HP) (k : Nat) : ∀ a ∈ hs (P.take k), a ∈ hs P := fun a ha => by
 obtain ⟨p, hp, rfl⟩ := List.mem_map.1 ha
 exact List.mem_map_of_mem (List.mem_of_mem_take hp)
theorem Few.take {P : HP} (h : Few P) (k : Nat) : Few (P.take k) := fun p hp => h p (List.mem_of_mem_take hp)
theorem verdict_no {h : Hd} {K : List Hd} (h0 : checkH h = 0) (hu : unknownR h K ≠ []) : verdictL h K = 11 := by
 unfold verdictL verdictR
 rw [if_neg (by rw [h0]; simp), unknown_rev, if_pos hu]
def ChainOut (w : World) (e : Ending) (w' : World) : Prop := ∃ kv P b, e = .returned (.tuple #[kv, .bool b]) ∧ HsV w' kv P ∧ Few P ∧ P.length ≤ 10 ∧ (b = false → Twin (hs P)) ∧ Below w.heap.size w w'
set_option maxHeartbeats 16000000 in
set_option maxRecDepth 100000 in
theorem chain_any {T : World → Prop} (hI : RuIs T) (ad : Option Addr) (n cap : Nat) (t : Nat → Int) (sq : Int) (w : World) (hT : T w) (hby : ByV w ad n t) (hnm : n ≤ 1125899906842624) (h0 : 0 ≤ sq) (h1 : sq ≤ 255) :
  Calls Tryz.prog 18 #[.slice ad n cap, .int .u8 sq] w fun e w' => ChainOut w e w' := by
 have HI := Lib.hid hI
 have HBY := Lib.hid hby
 have HT0 := Lib.hid hT
 have HS0 : Hid (ChS T w (.slice none 0 0) [] 0 w) := Lib.hid ⟨hT, OwnH.nil _ _, (fun p hp => by cases hp), rfl, Below.refl _ _⟩
 have hwq : Hid (IntKind.i64.wrap (1 + sq) = 1 + sq) := Lib.hid (by rw [IntKind.wrap_i64]; omega)
 clear hI hby hT
 go_enter Tryz.func18, Tryz.ntmps18
 go_wp2_with fail
 go_loopw [6, 7] (fun kv iv wr => ∃ (P : HP) (i : Nat), i ≤ n ∧ i ≤ 10 ∧ iv = .int .i64 (i : Int) ∧ ChS T w kv P i wr) (fun _ iv _ => n - (intOf iv).toNat)
 case atStart => exact ⟨[], 0, Nat.zero_le _, Nat.zero_le _, rfl, HS0.out⟩
 case round =>
  clear HS0
  obtain ⟨P, i, hin, hi10, rfl, hc⟩ := hrel
  have i0 : (0 : Int) ≤ (i : Int) := Int.natCast_nonneg _
  have HC := Lib.hid hc
  by_cases hlt : i < n ∧ i < 10
  case neg =>
   clear hc
   by_cases hlt2 : i < n
   ·
    obtain rfl : i = 10 := by omega
    have iI : ((10 : Nat) : Int) < (n : Int) := by omega
    clear hlt hlt2
    go_wp2_with fail
    refine bodyPost_ret (results_tmp2 rfl _ _ _) rfl ?_
    exact ⟨_, P, true, rfl, HC.out.hsv (Nat.le_refl _), HC.out.few, Nat.le_of_eq HC.out.len, (fun e => by cases e), HC.out.below⟩
   ·
    obtain rfl : i = n := by omega
    clear hlt hlt2
    go_wp2_with fail
    refine bodyPost_ret (results_tmp2 rfl _ _ _) rfl ?_
    exact ⟨_, P, true, rfl, HC.out.hsv hi10, HC.out.few, Nat.le_trans (Nat.le_of_eq HC.out.len) hi10, (fun e => by cases e), HC.out.below⟩
  have iI : (i : Int) < (n : Int) := by omega
  have i10 : (i : Int) < 10 := by omega
  obtain ⟨ka, kc, hkf⟩ := hc.own.form
  rw [hc.len] at hkf
  subst hkf
  obtain ⟨S, hS⟩ : ∃ S, S = wr.heap.size := ⟨_, rfl⟩
  obtain ⟨w1, hw1⟩ : ∃ u, u = wr := ⟨_, rfl⟩
  rw [← hw1] at hS HC hc
  have HS := Lib.hid hS
  have HT1 : Hid (Turn (S ≤ ·) w1 wr) := Lib.hid (hw1 ▸ Turn.refl _ _)
  clear hc hS hw1
  go_wp2_with fail
  go_loopw [8, 9] (fun hv jv wr => ∃ (Q : HP) (k : Nat), k ≤ i ∧ k ≤ 8 ∧ jv = .int .i64 (k : Int) ∧ OwnH wr (S ≤ ·) hv Q ∧ (∀ q ∈ Q, q ∈ P) ∧ Q.length ≤ k ∧ Turn (S ≤ ·) w1 wr) (fun _ jv _ => i - (intOf jv).toNat)
  case atStart => exact ⟨[], 0, Nat.zero_le _, Nat.zero_le _, rfl, OwnH.nil _ _, (fun q hq => by cases hq), Nat.le_refl _, HT1.out⟩
  case round =>
   clear HT1
   obtain ⟨Q, k, hki, hk8, rfl, ho, hq, hql, ht⟩ := hrel
   have k0 : (0 : Int) ≤ (k : Int) := Int.natCast_nonneg _
   have hb := ht.below fun b hb => (show w1.heap.size ≤ b by rw [← HS.out]; exact hb)
   have HO := Lib.hid ho
   have HQ := Lib.hid hq
   have HQL := Lib.hid hql
   have HT := Lib.hid ht
   have HB := Lib.hid hb
   by_cases hjt : k < i ∧ k < 8
   ·
    have kI : (k : Int) < (i : Int) := by omega
    have k8 : (k : Int) < 8 := by omega
    have hkP : k < P.length := by rw [HC.out.len]; exact hjt.1
    obtain ⟨b, off, rfl, -, cb, t0, t1⟩ := HBY.out.next (HC.out.below.trans (hb.mono HC.out.below.size)) i hlt.1
    obtain ⟨x, hx⟩ : ∃ x, x = t i := ⟨_, rfl⟩
    rw [← hx] at cb t0 t1
    clear hx ho hq hql ht hb
    have hk := (HC.out.hsv hi10).next HB.out
    obtain ⟨pb, po, e, -, -, -, -, -⟩ := hk.at_ hkP
    subst e
    obtain ⟨xa, va, hqa⟩ : ∃ a b, P.getD k zhp = (a, b) := ⟨_, _, rfl⟩
    have hld := load_e hk hkP hqa
    have hin := ins_e hk hkP hqa
    have hlo := (ins_e (HC.out.hsv hi10) hkP hqa).1
    have hmem : (xa, va) ∈ P := by rw [← hqa, List.getD_eq_getElem?_getD, List.getElem?_eq_getElem hkP]; exact List.getElem_mem hkP
    obtain ⟨hv2, w2, hrun, ho2, ht2, -⟩ := push_hd HO.out xa va hin.2 hin.1 (fun hne b off n c e hkk => absurd (rdv_lt hlo hne e) (by have := HO.out.1.2.2 b hkk; have := HS.out; omega)) (by have := HQL.out; omega) (fun b hb => (show S ≤ b by have := HT.out.size; have := HS.out; omega)) 27
    have HL32 := Lib.hid hin.2
    have HO2 := Lib.hid ho2
    have HT2 := Lib.hid ht2
    have HM := Lib.hid hmem
    clear hk hkP hqa hin hlo hmem ho2 ht2
    by_cases hbit : (bits BinOp.and IntKind.u8 (x / 2 ^ k) 1 == 1) = true
    ·
     go_wp2_with (first
      | ((with_reducible refine step_load (t := 26) (x := .tmp 47) (p := ?lpc1) (v := ?lvc1) ?lgc1 ?loc1 ?lxc1 ?lrc1 ?lhc1); (case lgc1 => rfl); (case loc1 => rfl); (case lxc1 => rfl); (case lrc1 => exact hld))
      | ((with_reducible refine hds.step_build1h (x := .tmp 48) (h := ?bhc2) (v := ?bvc2) ?bgc2 ?boc2 ?bxc2 ?blc2 ?bkc2); (case bgc2 => rfl); (case boc2 => rfl); (case bxc2 => rfl); (case blc2 => exact HL32.out))
      | ((with_reducible refine step_append (s := .tmp 44) (x := .tmp 49) (t := 27) (vs := ?asc3) (vx := ?axc3) (v' := ?avc3) (w' := ?awc3) ?agc3 ?aoc3 ?apc3 ?aqc3 ?arc3 ?ahc3); (case agc3 => rfl); (case aoc3 => rfl); (case apc3 => rfl); (case aqc3 => rfl); (case arc3 => exact hrun)))
     go_roundw
     case rel => exact ⟨Q ++ [(xa, va)], k + 1, hjt.1, hjt.2, by push_cast; rfl, HO2.out, fun q hq => (List.mem_append.1 hq).elim (HQ.out q) (fun h => by rw [List.mem_singleton.1 h]; exact HM.out), by rw [List.length_append, List.length_singleton]; have := HQL.out; omega, HT.out.trans (HT2.out.mono fun b hb => (show S ≤ b by
      rcases hb with hb | hb
      ·
       exact HO.out.1.2.2 b hb
      ·
       have := HT.out.size; have := HS.out; omega))⟩
     case measure => simp [intOf]; omega
    ·
     have hbit : (bits BinOp.and IntKind.u8 (x / 2 ^ k) 1 == 1) = false := Bool.not_eq_true _ ▸ hbit
     go_wp2_with fail
     go_roundw
     case rel => exact ⟨Q, k + 1, hjt.1, hjt.2, by push_cast; rfl, HO.out, HQ.out, Nat.le_succ_of_le HQL.out, HT.out⟩
     case measure => simp [intOf]; omega
   have hc1 := HC.out.next HI.out HB.out
   have hqv : HsV wr u8 Q := ho.hsv (by omega)
   obtain ⟨G, er, hn⟩ : ∃ G er, nextR (hs Q) [99, 97] (i : Int) (1 + sq) 1 zid = (G, er) := ⟨_, _, rfl⟩
   obtain ⟨e0, hG0, hGh, hGt, hun, hvt, hvm⟩ := made_one hc1 hq hlt.2 h0 h1 hn
   subst e0
   have hmd := HI.out.made u8 Q [99, 97] (i : Int) (1 + sq) 1 zid wr hc1.t hqv (fun q h => hc1.few q (hq q h)) (by omega) zid32 (by decide)
   have hcom := nextR_com (hs Q) [99, 97] (i : Int) (1 + sq) 1 zid zid32
   rw [hn] at hcom hmd
   dsimp only at hcom
   rw [ca_lit, zid_lit] at hmd
   have HMD := Lib.hid hmd
   have HCOM := Lib.hid hcom
   have HC1 := Lib.hid hc1
   have HG0 := Lib.hid hG0
   have HGH := Lib.hid hGh
   have HGT := Lib.hid hGt
   have HUN := Lib.hid hun
   have HVM := Lib.hid hvm
   have HG4 : Hid (G.parents.length ≤ 1000) := Lib.hid (by have := check_par hG0; omega)
   have HGT2 : Hid (G.topic.length ≤ 140737488351232) := Lib.hid (by rw [hGt]; decide)
   have HSR : Hid (S ≤ wr.heap.size) := Lib.hid (by have := HT.out.size; have := HS.out; omega)
   obtain ⟨vK, hvK⟩ : ∃ x, x = verdictL G (hs P) := ⟨_, rfl⟩
   rw [← hvK] at hvt
   have HVK := Lib.hid hvK
   have HVT := Lib.hid hvt
   clear ho hq hql ht hb hc1 hqv hn hG0 hGh hGt hun hvm hmd hcom hvt hvK HO HQ HQL HT HB
   by_cases hjt2 : k < i
   ·
    have kI : (k : Int) < (i : Int) := by omega
    have k8 : (8 : Int) ≤ (k : Int) := by omega
    clear hjt hjt2
    go_upto_region 12 with (first
     | (go_at_call 15; (with_reducible refine HMD.out.mono ?_); rintro e w3 ⟨uG, rfl, hp3, hb3, hnw⟩; have hh := run_hold w3 G uG HCOM.out (rdv_one hp3); have hk := held_blk w3 G uG; have hbb := held_below w3 G uG; obtain ⟨w4, hw4⟩ : ∃ x, x = heldW w3 G uG := ⟨_, rfl⟩; rw [← hw4] at hh hk hbb; have hb34 := hb3.trans (hbb.mono hb3.size); have HM4 : Hid (MdS T w _ P i w3.heap.size G uG w4) := Lib.hid ⟨HC1.out.next HI.out hb34, hk, hp3.next hbb⟩; have hlg := run_load_hd hk HCOM.out; have HH := Lib.hid hh; have HNW := Lib.hid hnw; clear hp3 hb3 hnw hh hk hbb hw4 hb34 HMD)
     | ((with_reducible refine step_store_run (t := 26) (x := .tmp 10) (y := .tmp 59) (p := ?spzas) (v := ?svzas) (w' := ?swzas) ?sgzas ?sozas ?sxzas ?syzas ?srzas ?shzas); (case sgzas => rfl); (case sozas => rfl); (case sxzas => rfl); (case syzas => rfl); (case srzas => exact HH.out)))
    clear HH
    obtain ⟨g, hg⟩ : ∃ x, x = w3.heap.size := ⟨_, rfl⟩
    rw [← hg] at HM4 hlg ⊢
    clear hg
    have hv4 := HI.out.verdict G uG _ P w4 HM4.out.c.t HCOM.out HM4.out.p HG4.out HGT2.out (HM4.out.c.hsv hi10) HM4.out.c.few (by have := HM4.out.c.len; omega)
    rw [← HVK.out] at hv4
    have HV4 := Lib.hid hv4
    clear hv4
    by_cases hvz : vK = 0
    ·
     subst hvz
     obtain ⟨ul, hul⟩ : ∃ n, n = (unknownR G (hs P)).length := ⟨_, rfl⟩
     have hu0 : (ul : Int) = 0 := by rw [hul, HUN.out]; rfl
     have HUL := Lib.hid hul
     clear hul
     go_upto_region 13 with (first
      | ((with_reducible refine step_load_w (t := 26) (x := .tmp 10) (p := ?lpzag) (v := ?lvzag) ?lgzag ?lozag ?lxzag ?lrzag ?lhzag); (case lozag => rfl); (case lgzag => rfl); (case lxzag => rfl); (case lrzag => exact hlg))
      | (go_at_call 8; (with_reducible refine HV4.out.mono ?_); rintro e w5 ⟨rfl, hb5⟩; have HM5 := Lib.hid (HM4.out.next HI.out hb5); clear hb5 HV4; have hlg5 := run_load_hd HM5.out.b HCOM.out; have hun := HI.out.unknown G uG _ P w5 HM5.out.c.t HCOM.out HM5.out.p HG4.out (HM5.out.c.hsv hi10) HM5.out.c.few (by have := HM5.out.c.len; omega); have HUC := Lib.hid hun; clear hun)
      | ((with_reducible refine step_load_w (t := 26) (x := .tmp 10) (p := ?lpzah) (v := ?lvzah) ?lgzah ?lozah ?lxzah ?lrzah ?lhzah); (case lozah => rfl); (case lgzah => rfl); (case lxzah => rfl); (case lrzah => exact hlg5))
      | (go_at_call 11; (with_reducible refine HUC.out.mono ?_); rintro e w6 ⟨o, rfl, ho, hb6⟩; obtain ⟨oa, oc, rfl⟩ := ho.form; rw [← HUL.out]; have HM5 := Lib.hid (HM5.out.next HI.out hb6); clear hb6 ho HUC hlg5))
     clear hlg HM4
     clear HVT
     obtain ⟨w5, hw5⟩ : ∃ u, u = w6 := ⟨_, rfl⟩
     rw [← hw5] at HM5 ⊢
     have HM6 := HM5
     clear hw5
     go_wp2_with fail
     go_loopw [12, 13, 14] (fun bv jv _ wr => ∃ (fl : Bool) (k : Nat), k ≤ i ∧ bv = .bool fl ∧ jv = .int .i64 (k : Int) ∧ (fl = true → Twin (hs P)) ∧ Below w5.heap.size w5 wr) (fun _ jv _ _ => i - (intOf jv).toNat)
     case atStart => exact ⟨false, 0, Nat.zero_le _, rfl, rfl, fun h => (by cases h), Below.refl _ _⟩
     case round =>
      clear HM6
      obtain ⟨fl, k, hki, rfl, rfl, hft, hb⟩ := hrel
      have k0 : (0 : Int) ≤ (k : Int) := Int.natCast_nonneg _
      have HFT := Lib.hid hft
      have HB := Lib.hid hb
      have hm := HM5.out.next HI.out hb
      by_cases hkt : k < i
      ·
       have kI : (k : Int) < (i : Int) := by omega
       have HM := Lib.hid hm
       have hks := slice_hi_h (hm.c.hsv hi10) k (Nat.le_of_lt hkt) wr
       have HSL : Hid (∀ u : World, _) := Lib.hid (fun u => (slice_hi_h (hm.c.hsv hi10) k (Nat.le_of_lt hkt) u).1)
       have HV : Hid (∀ u, MdS T w (.slice ka i kc) P i g G uG u → HsV u (.slice ka k kc) (P.take k)) := Lib.hid fun u h => (slice_hi_h (h.c.hsv hi10) k (Nat.le_of_lt hkt) u).2
       have htl : (P.take k).length ≤ 1000 := by rw [List.length_take, hm.c.len]; omega
       obtain ⟨vk, hvk⟩ : ∃ x, x = verdictL G (hs (P.take k)) := ⟨_, rfl⟩
       obtain ⟨uk, huk⟩ : ∃ x, x = unknownR G (hs (P.take k)) := ⟨_, rfl⟩
       have HVC := Lib.hid (fun u (h : MdS T w (.slice ka i kc) P i g G uG u) => HI.out.verdict G uG (.slice ka k kc) (P.take k) u h.c.t HCOM.out h.p HG4.out HGT2.out (HV.out u h) (h.c.few.take k) htl)
       have HUC := Lib.hid (fun u (h : MdS T w (.slice ka i kc) P i g G uG u) => HI.out.unknown G uG (.slice ka k kc) (P.take k) u h.c.t HCOM.out h.p HG4.out (HV.out u h) (h.c.few.take k) htl)
       rw [← hvk] at HVC
       rw [← huk] at HUC
       have HL := Lib.hid (fun u (h : MdS T w (.slice ka i kc) P i g G uG u) => run_load_hd h.b HCOM.out)
       have HA : Hid (uk ≠ [] → vk = 11) := Lib.hid fun h => by rw [hvk]; exact verdict_no HG0.out (by rw [← huk]; exact h)
       have HC : Hid (uk = [] → vk ≠ 0 → Twin (hs P)) := Lib.hid fun h hne => by
        by_cases ht : Twin (hs P)
        ·
         exact ht
        ·
         have := HVM.out (hs (P.take k)) (take_hs P k) ht
         rw [← hvk, ← huk, if_pos h] at this
         exact absurd this hne
       clear hft hb hm hks htl hvk huk
       go_upto_region 16 with fail
       refine wp_region_held_drew (S := MdS T w (.slice ka i kc) P i g G uG) (by kernel_rfl) ?_ (fun hHeld => ?_)
       ·
        exact HM.out.next HI.out ((Below.refl _ _).drew)
       refine' wpAnyH_take (i := 0) ?hizamr0 (by kernel_rfl) (by kernel_rfl) (by kernel_rfl) ?hqzamr0 (Or.inl ⟨?hwzamr0, ?hyzamr0⟩) (by assumption) ?hrzamr0
       case hizamr0 => (simp only [List.getElem?_toArray, List.getElem?_cons_zero]; rfl)
       case hqzamr0 => exact fun _ _ _ h => h
       case hwzamr0 => rfl
       case hyzamr0 => exact fun w0 hSw => run_exec_load rfl rfl (HL.out w0 hSw)
       (try simp only [Act.put, List.setIfInBounds_toArray, List.set_cons_zero, List.set_cons_succ])
       refine' wpAnyH_take (i := 1) ?hizamr1 (by kernel_rfl) (by kernel_rfl) (by kernel_rfl) ?hqzamr1 (Or.inl ⟨?hwzamr1, ?hyzamr1⟩) (by assumption) ?hrzamr1
       case hizamr1 => (simp only [List.getElem?_toArray, List.getElem?_cons_succ, List.getElem?_cons_zero]; rfl)
       case hqzamr1 => exact fun _ _ _ h => h
       case hwzamr1 => rfl
       case hyzamr1 => (intro w0 hSw; (try dsimp only at hSw); go_simp; try with_reducible rfl)
       (try simp only [Act.put, List.setIfInBounds_toArray, List.set_cons_zero, List.set_cons_succ])
       refine' wpAnyH_take (i := 2) ?hizamr2 (by kernel_rfl) (by kernel_rfl) (by kernel_rfl) ?hqzamr2 (Or.inl ⟨?hwzamr2, ?hyzamr2⟩) (by assumption) ?hrzamr2
       case hizamr2 => (simp only [List.getElem?_toArray, List.getElem?_cons_succ, List.getElem?_cons_zero]; rfl)
       case hqzamr2 => exact fun _ _ _ h => h
       case hwzamr2 => rfl
       case hyzamr2 => (intro w0 hSw; (try dsimp only at hSw); go_simp; try with_reducible rfl)
       (try simp only [Act.put, List.setIfInBounds_toArray, List.set_cons_zero, List.set_cons_succ])
       refine' wpAnyH_take (i := 3) ?hizamr3 (by kernel_rfl) (by kernel_rfl) (by kernel_rfl) ?hqzamr3 (Or.inl ⟨?hwzamr3, ?hyzamr3⟩) (by assumption) ?hrzamr3
       case hizamr3 => (simp only [List.getElem?_toArray, List.getElem?_cons_succ, List.getElem?_cons_zero]; rfl)
       case hqzamr3 => exact fun _ _ _ h => h
       case hwzamr3 => rfl
       case hyzamr3 => exact fun w0 hSw => exec_hi rfl rfl rfl (HSL.out w0)
       (try simp only [Act.put, List.setIfInBounds_toArray, List.set_cons_zero, List.set_cons_succ])
       refine wpAnyH_ready (rs := [4]) (by kernel_rfl) (by simp) ?_
       refine' AllReadyH.cons ?hizamr4 (fun K hK => ?hrzamr4) AllReadyH.nil
       case hizamr4 => (simp only [List.getElem?_toArray, List.getElem?_cons_succ, List.getElem?_cons_zero]; rfl)
       go_simp
       (refine (HVC.out _ hHeld).mono ?_; rintro e w6 ⟨rfl, hb6⟩; have HB6 := Lib.hid hb6; clear hb6)
       refine hK.out _ _ ?_ (fun hHeld => ?_)
       ·
        exact hHeld.next HI.out HB6.out
       clear hK K
       (try simp only [Act.put, List.setIfInBounds_toArray, List.set_cons_zero, List.set_cons_succ])
       refine' wpAnyH_take (i := 5) ?hizamr5 (by kernel_rfl) (by kernel_rfl) (by kernel_rfl) ?hqzamr5 (Or.inl ⟨?hwzamr5, ?hyzamr5⟩) (by assumption) ?hrzamr5
       case hizamr5 => (simp only [List.getElem?_toArray, List.getElem?_cons_succ, List.getElem?_cons_zero]; rfl)
       case hqzamr5 => exact fun _ _ _ h => h
       case hwzamr5 => rfl
       case hyzamr5 => (intro w0 hSw; (try dsimp only at hSw); go_simp; try with_reducible rfl)
       (try simp only [Act.put, List.setIfInBounds_toArray, List.set_cons_zero, List.set_cons_succ])
       refine wpAnyH_done (by kernel_rfl) ?_ _
       have HM7 := Lib.hid hHeld
       have HB7 := Lib.hid (HB.out.trans ((((Below.refl _ wr).drew).trans HB6.out).mono HB.out.size))
       clear hHeld HM
       go_upto_region 17 with fail
       cases fl with
       | true =>
        refine wp_region_held_drew (S := MdS T w (.slice ka i kc) P i g G uG) (by kernel_rfl) ?_ (fun hHeld => ?_)
        ·
         exact HM7.out.next HI.out ((Below.refl _ _).drew)
        refine' wpAnyH_take (i := 0) ?hizamt0 (by kernel_rfl) (by kernel_rfl) (by kernel_rfl) ?hqzamt0 (Or.inl ⟨?hwzamt0, ?hyzamt0⟩) (by assumption) ?hrzamt0
        case hizamt0 => (simp only [List.getElem?_toArray, List.getElem?_cons_zero]; rfl)
        case hqzamt0 => exact fun _ _ _ h => h
        case hwzamt0 => rfl
        case hyzamt0 => (intro w0 hSw; (try dsimp only at hSw); go_simp; try with_reducible rfl)
        (try simp only [Act.put, List.setIfInBounds_toArray, List.set_cons_zero, List.set_cons_succ])
        refine' wpAnyH_take (i := 1) ?hizamt1 (by kernel_rfl) (by kernel_rfl) (by kernel_rfl) ?hqzamt1 (Or.inl ⟨?hwzamt1, ?hyzamt1⟩) (by assumption) ?hrzamt1
        case hizamt1 => (simp only [List.getElem?_toArray, List.getElem?_cons_succ, List.getElem?_cons_zero]; rfl)
        case hqzamt1 => exact fun _ _ _ h => h
        case hwzamt1 => rfl
        case hyzamt1 => (intro w0 hSw; (try dsimp only at hSw); go_simp; try with_reducible rfl)
        (try simp only [Act.put, List.setIfInBounds_toArray, List.set_cons_zero, List.set_cons_succ])
        refine' wpAnyH_take (i := 2) (v := undef) ?hizamt2 (by kernel_rfl) (by kernel_rfl) (by kernel_rfl) ?hqzamt2 (Or.inr ⟨?hwzamt2, rfl⟩) (by assumption) ?hrzamt2
        case hizamt2 => (simp only [List.getElem?_toArray, List.getElem?_cons_succ, List.getElem?_cons_zero]; rfl)
        case hqzamt2 => exact fun _ _ _ h => h
        case hwzamt2 => rfl
        (try simp only [Act.put, List.setIfInBounds_toArray, List.set_cons_zero, List.set_cons_succ])
        refine' wpAnyH_take (i := 3) (v := undef) ?hizamt3 (by kernel_rfl) (by kernel_rfl) (by kernel_rfl) ?hqzamt3 (Or.inr ⟨?hwzamt3, rfl⟩) (by assumption) ?hrzamt3
        case hizamt3 => (simp only [List.getElem?_toArray, List.getElem?_cons_succ, List.getElem?_cons_zero]; rfl)
        case hqzamt3 => exact fun _ _ _ h => h
        case hwzamt3 => rfl
        (try simp only [Act.put, List.setIfInBounds_toArray, List.set_cons_zero, List.set_cons_succ])
        refine' wpAnyH_take (i := 4) (v := undef) ?hizamt4 (by kernel_rfl) (by kernel_rfl) (by kernel_rfl) ?hqzamt4 (Or.inr ⟨?hwzamt4, rfl⟩) (by assumption) ?hrzamt4
        case hizamt4 => (simp only [List.getElem?_toArray, List.getElem?_cons_succ, List.getElem?_cons_zero]; rfl)
        case hqzamt4 => exact fun _ _ _ h => h
        case hwzamt4 => rfl
        (try simp only [Act.put, List.setIfInBounds_toArray, List.set_cons_zero, List.set_cons_succ])
        refine' wpAnyH_take (i := 5) (v := undef) ?hizamt5 (by kernel_rfl) (by kernel_rfl) (by kernel_rfl) ?hqzamt5 (Or.inr ⟨?hwzamt5, rfl⟩) (by assumption) ?hrzamt5
        case hizamt5 => (simp only [List.getElem?_toArray, List.getElem?_cons_succ, List.getElem?_cons_zero]; rfl)
        case hqzamt5 => exact fun _ _ _ h => h
        case hwzamt5 => rfl
        (try simp only [Act.put, List.setIfInBounds_toArray, List.set_cons_zero, List.set_cons_succ])
        refine' wpAnyH_take (i := 6) (v := undef) ?hizamt6 (by kernel_rfl) (by kernel_rfl) (by kernel_rfl) ?hqzamt6 (Or.inr ⟨?hwzamt6, rfl⟩) (by assumption) ?hrzamt6
        case hizamt6 => (simp only [List.getElem?_toArray, List.getElem?_cons_succ, List.getElem?_cons_zero]; rfl)
        case hqzamt6 => exact fun _ _ _ h => h
        case hwzamt6 => rfl
        (try simp only [Act.put, List.setIfInBounds_toArray, List.set_cons_zero, List.set_cons_succ])
        refine' wpAnyH_take (i := 7) (v := undef) ?hizamt7 (by kernel_rfl) (by kernel_rfl) (by kernel_rfl) ?hqzamt7 (Or.inr ⟨?hwzamt7, rfl⟩) (by assumption) ?hrzamt7
        case hizamt7 => (simp only [List.getElem?_toArray, List.getElem?_cons_succ, List.getElem?_cons_zero]; rfl)
        case hqzamt7 => exact fun _ _ _ h => h
        case hwzamt7 => rfl
        (try simp only [Act.put, List.setIfInBounds_toArray, List.set_cons_zero, List.set_cons_succ])
        refine' wpAnyH_take (i := 8) (v := undef) ?hizamt8 (by kernel_rfl) (by kernel_rfl) (by kernel_rfl) ?hqzamt8 (Or.inr ⟨?hwzamt8, rfl⟩) (by assumption) ?hrzamt8
        case hizamt8 => (simp only [List.getElem?_toArray, List.getElem?_cons_succ, List.getElem?_cons_zero]; rfl)
        case hqzamt8 => exact fun _ _ _ h => h
        case hwzamt8 => rfl
        (try simp only [Act.put, List.setIfInBounds_toArray, List.set_cons_zero, List.set_cons_succ])
        refine' wpAnyH_take (i := 9) (v := undef) ?hizamt9 (by kernel_rfl) (by kernel_rfl) (by kernel_rfl) ?hqzamt9 (Or.inr ⟨?hwzamt9, rfl⟩) (by assumption) ?hrzamt9
        case hizamt9 => (simp only [List.getElem?_toArray, List.getElem?_cons_succ, List.getElem?_cons_zero]; rfl)
        case hqzamt9 => exact fun _ _ _ h => h
        case hwzamt9 => rfl
        (try simp only [Act.put, List.setIfInBounds_toArray, List.set_cons_zero, List.set_cons_succ])
        refine' wpAnyH_take (i := 10) (v := undef) ?hizamt10 (by kernel_rfl) (by kernel_rfl) (by kernel_rfl) ?hqzamt10 (Or.inr ⟨?hwzamt10, rfl⟩) (by assumption) ?hrzamt10
        case hizamt10 => (simp only [List.getElem?_toArray, List.getElem?_cons_succ, List.getElem?_cons_zero]; rfl)
        case hqzamt10 => exact fun _ _ _ h => h
        case hwzamt10 => rfl
        (try simp only [Act.put, List.setIfInBounds_toArray, List.set_cons_zero, List.set_cons_succ])
        refine' wpAnyH_take (i := 11) (v := undef) ?hizamt11 (by kernel_rfl) (by kernel_rfl) (by kernel_rfl) ?hqzamt11 (Or.inr ⟨?hwzamt11, rfl⟩) (by assumption) ?hrzamt11
        case hizamt11 => (simp only [List.getElem?_toArray, List.getElem?_cons_succ, List.getElem?_cons_zero]; rfl)
        case hqzamt11 => exact fun _ _ _ h => h
        case hwzamt11 => rfl
        (try simp only [Act.put, List.setIfInBounds_toArray, List.set_cons_zero, List.set_cons_succ])
        refine' wpAnyH_take (i := 12) ?hizamt12 (by kernel_rfl) (by kernel_rfl) (by kernel_rfl) ?hqzamt12 (Or.inl ⟨?hwzamt12, ?hyzamt12⟩) (by assumption) ?hrzamt12
        case hizamt12 => (simp only [List.getElem?_toArray, List.getElem?_cons_succ, List.getElem?_cons_zero]; rfl)
        case hqzamt12 => exact fun _ _ _ h => h
        case hwzamt12 => rfl
        case hyzamt12 => (intro w0 hSw; (try dsimp only at hSw); go_simp; try with_reducible rfl)
        (try simp only [Act.put, List.setIfInBounds_toArray, List.set_cons_zero, List.set_cons_succ])
        refine' wpAnyH_take (i := 13) ?hizamt13 (by kernel_rfl) (by kernel_rfl) (by kernel_rfl) ?hqzamt13 (Or.inl ⟨?hwzamt13, ?hyzamt13⟩) (by assumption) ?hrzamt13
        case hizamt13 => (simp only [List.getElem?_toArray, List.getElem?_cons_succ, List.getElem?_cons_zero]; rfl)
        case hqzamt13 => exact fun _ _ _ h => h
        case hwzamt13 => rfl
        case hyzamt13 => (intro w0 hSw; (try dsimp only at hSw); go_simp; try with_reducible rfl)
        (try simp only [Act.put, List.setIfInBounds_toArray, List.set_cons_zero, List.set_cons_succ])
        refine' wpAnyH_take (i := 14) (v := undef) ?hizamt14 (by kernel_rfl) (by kernel_rfl) (by kernel_rfl) ?hqzamt14 (Or.inr ⟨?hwzamt14, rfl⟩) (by assumption) ?hrzamt14
        case hizamt14 => (simp only [List.getElem?_toArray, List.getElem?_cons_succ, List.getElem?_cons_zero]; rfl)
        case hqzamt14 => exact fun _ _ _ h => h
        case hwzamt14 => rfl
        (try simp only [Act.put, List.setIfInBounds_toArray, List.set_cons_zero, List.set_cons_succ])
        refine' wpAnyH_take (i := 15) (v := undef) ?hizamt15 (by kernel_rfl) (by kernel_rfl) (by kernel_rfl) ?hqzamt15 (Or.inr ⟨?hwzamt15, rfl⟩) (by assumption) ?hrzamt15
        case hizamt15 => (simp only [List.getElem?_toArray, List.getElem?_cons_succ, List.getElem?_cons_zero]; rfl)
        case hqzamt15 => exact fun _ _ _ h => h
        case hwzamt15 => rfl
        (try simp only [Act.put, List.setIfInBounds_toArray, List.set_cons_zero, List.set_cons_succ])
        refine' wpAnyH_take (i := 16) (v := undef) ?hizamt16 (by kernel_rfl) (by kernel_rfl) (by kernel_rfl) ?hqzamt16 (Or.inr ⟨?hwzamt16, rfl⟩) (by assumption) ?hrzamt16
        case hizamt16 => (simp only [List.getElem?_toArray, List.getElem?_cons_succ, List.getElem?_cons_zero]; rfl)
        case hqzamt16 => exact fun _ _ _ h => h
        case hwzamt16 => rfl
        (try simp only [Act.put, List.setIfInBounds_toArray, List.set_cons_zero, List.set_cons_succ])
        refine' wpAnyH_take (i := 17) (v := undef) ?hizamt17 (by kernel_rfl) (by kernel_rfl) (by kernel_rfl) ?hqzamt17 (Or.inr ⟨?hwzamt17, rfl⟩) (by assumption) ?hrzamt17
        case hizamt17 => (simp only [List.getElem?_toArray, List.getElem?_cons_succ, List.getElem?_cons_zero]; rfl)
        case hqzamt17 => exact fun _ _ _ h => h
        case hwzamt17 => rfl
        (try simp only [Act.put, List.setIfInBounds_toArray, List.set_cons_zero, List.set_cons_succ])
        refine' wpAnyH_take (i := 18) (v := undef) ?hizamt18 (by kernel_rfl) (by kernel_rfl) (by kernel_rfl) ?hqzamt18 (Or.inr ⟨?hwzamt18, rfl⟩) (by assumption) ?hrzamt18
        case hizamt18 => (simp only [List.getElem?_toArray, List.getElem?_cons_succ, List.getElem?_cons_zero]; rfl)
        case hqzamt18 => exact fun _ _ _ h => h
        case hwzamt18 => rfl
        (try simp only [Act.put, List.setIfInBounds_toArray, List.set_cons_zero, List.set_cons_succ])
        refine' wpAnyH_take (i := 19) (v := undef) ?hizamt19 (by kernel_rfl) (by kernel_rfl) (by kernel_rfl) ?hqzamt19 (Or.inr ⟨?hwzamt19, rfl⟩) (by assumption) ?hrzamt19
        case hizamt19 => (simp only [List.getElem?_toArray, List.getElem?_cons_succ, List.getElem?_cons_zero]; rfl)
        case hqzamt19 => exact fun _ _ _ h => h
        case hwzamt19 => rfl
        (try simp only [Act.put, List.setIfInBounds_toArray, List.set_cons_zero, List.set_cons_succ])
        refine' wpAnyH_take (i := 20) ?hizamt20 (by kernel_rfl) (by kernel_rfl) (by kernel_rfl) ?hqzamt20 (Or.inl ⟨?hwzamt20, ?hyzamt20⟩) (by assumption) ?hrzamt20
        case hizamt20 => (simp only [List.getElem?_toArray, List.getElem?_cons_succ, List.getElem?_cons_zero]; rfl)
        case hqzamt20 => exact fun _ _ _ h => h
        case hwzamt20 => rfl
        case hyzamt20 => (intro w0 hSw; (try dsimp only at hSw); go_simp; try with_reducible rfl)
        (try simp only [Act.put, List.setIfInBounds_toArray, List.set_cons_zero, List.set_cons_succ])
        refine' wpAnyH_take (i := 21) ?hizamt21 (by kernel_rfl) (by kernel_rfl) (by kernel_rfl) ?hqzamt21 (Or.inl ⟨?hwzamt21, ?hyzamt21⟩) (by assumption) ?hrzamt21
        case hizamt21 => (simp only [List.getElem?_toArray, List.getElem?_cons_succ, List.getElem?_cons_zero]; rfl)
        case hqzamt21 => exact fun _ _ _ h => h
        case hwzamt21 => rfl
        case hyzamt21 => (intro w0 hSw; (try dsimp only at hSw); go_simp; try with_reducible rfl)
        (try simp only [Act.put, List.setIfInBounds_toArray, List.set_cons_zero, List.set_cons_succ])
        refine wpAnyH_done (by kernel_rfl) ?_ _
        clear hHeld
        go_wp2_with fail
        go_roundw
        case rel => exact ⟨true, k + 1, hkt, rfl, by push_cast; rfl, HFT.out, HB7.out.trans (((Below.refl _ w6).drew).mono HB7.out.size)⟩
        case measure => simp [intOf]; omega
       | false =>
        by_cases hu : uk = []
        ·
         by_cases hz : vk = 0
         ·
          subst hz
          have hul : ((uk.length : Nat) : Int) = 0 := by rw [hu]; rfl
          obtain ⟨ul, hule⟩ : ∃ n, n = uk.length := ⟨_, rfl⟩
          rw [← hule] at hul
          have HUL := Lib.hid hule
          clear hule hu
          refine wp_region_held_drew (S := MdS T w (.slice ka i kc) P i g G uG) (by kernel_rfl) ?_ (fun hHeld => ?_)
          ·
           exact HM7.out.next HI.out ((Below.refl _ _).drew)
          refine' wpAnyH_take (i := 0) ?hizamb0 (by kernel_rfl) (by kernel_rfl) (by kernel_rfl) ?hqzamb0 (Or.inl ⟨?hwzamb0, ?hyzamb0⟩) (by assumption) ?hrzamb0
          case hizamb0 => (simp only [List.getElem?_toArray, List.getElem?_cons_zero]; rfl)
          case hqzamb0 => exact fun _ _ _ h => h
          case hwzamb0 => rfl
          case hyzamb0 => (intro w0 hSw; (try dsimp only at hSw); go_simp; try with_reducible rfl)
          (try simp only [Act.put, List.setIfInBounds_toArray, List.set_cons_zero, List.set_cons_succ])
          refine' wpAnyH_take (i := 1) ?hizamb1 (by kernel_rfl) (by kernel_rfl) (by kernel_rfl) ?hqzamb1 (Or.inl ⟨?hwzamb1, ?hyzamb1⟩) (by assumption) ?hrzamb1
          case hizamb1 => (simp only [List.getElem?_toArray, List.getElem?_cons_succ, List.getElem?_cons_zero]; rfl)
          case hqzamb1 => exact fun _ _ _ h => h
          case hwzamb1 => rfl
          case hyzamb1 => (intro w0 hSw; (try dsimp only at hSw); go_simp; try with_reducible rfl)
          (try simp only [Act.put, List.setIfInBounds_toArray, List.set_cons_zero, List.set_cons_succ])
          refine' wpAnyH_take (i := 2) ?hizamb2 (by kernel_rfl) (by kernel_rfl) (by kernel_rfl) ?hqzamb2 (Or.inl ⟨?hwzamb2, ?hyzamb2⟩) (by assumption) ?hrzamb2
          case hizamb2 => (simp only [List.getElem?_toArray, List.getElem?_cons_succ, List.getElem?_cons_zero]; rfl)
          case hqzamb2 => exact fun _ _ _ h => h
          case hwzamb2 => rfl
          case hyzamb2 => (intro w0 hSw; (try dsimp only at hSw); go_simp; try with_reducible rfl)
          (try simp only [Act.put, List.setIfInBounds_toArray, List.set_cons_zero, List.set_cons_succ])
          refine' wpAnyH_take (i := 3) ?hizamb3 (by kernel_rfl) (by kernel_rfl) (by kernel_rfl) ?hqzamb3 (Or.inl ⟨?hwzamb3, ?hyzamb3⟩) (by assumption) ?hrzamb3
          case hizamb3 => (simp only [List.getElem?_toArray, List.getElem?_cons_succ, List.getElem?_cons_zero]; rfl)
          case hqzamb3 => exact fun _ _ _ h => h
          case hwzamb3 => rfl
          case hyzamb3 => (intro w0 hSw; (try dsimp only at hSw); go_simp; try with_reducible rfl)
          (try simp only [Act.put, List.setIfInBounds_toArray, List.set_cons_zero, List.set_cons_succ])
          refine' wpAnyH_take (i := 4) ?hizamb4 (by kernel_rfl) (by kernel_rfl) (by kernel_rfl) ?hqzamb4 (Or.inl ⟨?hwzamb4, ?hyzamb4⟩) (by assumption) ?hrzamb4
          case hizamb4 => (simp only [List.getElem?_toArray, List.getElem?_cons_succ, List.getElem?_cons_zero]; rfl)
          case hqzamb4 => exact fun _ _ _ h => h
          case hwzamb4 => rfl
          case hyzamb4 => exact fun w0 hSw => run_exec_load rfl rfl (HL.out w0 hSw)
          (try simp only [Act.put, List.setIfInBounds_toArray, List.set_cons_zero, List.set_cons_succ])
          refine' wpAnyH_take (i := 5) ?hizamb5 (by kernel_rfl) (by kernel_rfl) (by kernel_rfl) ?hqzamb5 (Or.inl ⟨?hwzamb5, ?hyzamb5⟩) (by assumption) ?hrzamb5
          case hizamb5 => (simp only [List.getElem?_toArray, List.getElem?_cons_succ, List.getElem?_cons_zero]; rfl)
          case hqzamb5 => exact fun _ _ _ h => h
          case hwzamb5 => rfl
          case hyzamb5 => (intro w0 hSw; (try dsimp only at hSw); go_simp; try with_reducible rfl)
          (try simp only [Act.put, List.setIfInBounds_toArray, List.set_cons_zero, List.set_cons_succ])
          refine' wpAnyH_take (i := 6) ?hizamb6 (by kernel_rfl) (by kernel_rfl) (by kernel_rfl) ?hqzamb6 (Or.inl ⟨?hwzamb6, ?hyzamb6⟩) (by assumption) ?hrzamb6
          case hizamb6 => (simp only [List.getElem?_toArray, List.getElem?_cons_succ, List.getElem?_cons_zero]; rfl)
          case hqzamb6 => exact fun _ _ _ h => h
          case hwzamb6 => rfl
          case hyzamb6 => (intro w0 hSw; (try dsimp only at hSw); go_simp; try with_reducible rfl)
          (try simp only [Act.put, List.setIfInBounds_toArray, List.set_cons_zero, List.set_cons_succ])
          refine' wpAnyH_take (i := 7) ?hizamb7 (by kernel_rfl) (by kernel_rfl) (by kernel_rfl) ?hqzamb7 (Or.inl ⟨?hwzamb7, ?hyzamb7⟩) (by assumption) ?hrzamb7
          case hizamb7 => (simp only [List.getElem?_toArray, List.getElem?_cons_succ, List.getElem?_cons_zero]; rfl)
          case hqzamb7 => exact fun _ _ _ h => h
          case hwzamb7 => rfl
          case hyzamb7 => exact fun w0 hSw => exec_hi rfl rfl rfl (HSL.out w0)
          (try simp only [Act.put, List.setIfInBounds_toArray, List.set_cons_zero, List.set_cons_succ])
          refine wpAnyH_ready (rs := [8]) (by kernel_rfl) (by simp) ?_
          refine' AllReadyH.cons ?hizamb8 (fun K hK => ?hrzamb8) AllReadyH.nil
          case hizamb8 => (simp only [List.getElem?_toArray, List.getElem?_cons_succ, List.getElem?_cons_zero]; rfl)
          go_simp
          (refine (HUC.out _ hHeld).mono ?_; rintro e w8 ⟨o, rfl, ho, hb8⟩; obtain ⟨oa, oc, rfl⟩ := ho.form; rw [← HUL.out]; have HB8 := Lib.hid hb8; clear hb8 ho)
          refine hK.out _ _ ?_ (fun hHeld => ?_)
          ·
           exact hHeld.next HI.out HB8.out
          clear hK K
          (try simp only [Act.put, List.setIfInBounds_toArray, List.set_cons_zero, List.set_cons_succ])
          refine' wpAnyH_take (i := 9) ?hizamb9 (by kernel_rfl) (by kernel_rfl) (by kernel_rfl) ?hqzamb9 (Or.inl ⟨?hwzamb9, ?hyzamb9⟩) (by assumption) ?hrzamb9
          case hizamb9 => (simp only [List.getElem?_toArray, List.getElem?_cons_succ, List.getElem?_cons_zero]; rfl)
          case hqzamb9 => exact fun _ _ _ h => h
          case hwzamb9 => rfl
          case hyzamb9 => (intro w0 hSw; (try dsimp only at hSw); go_simp; try with_reducible rfl)
          (try simp only [Act.put, List.setIfInBounds_toArray, List.set_cons_zero, List.set_cons_succ])
          refine' wpAnyH_take (i := 10) ?hizamb10 (by kernel_rfl) (by kernel_rfl) (by kernel_rfl) ?hqzamb10 (Or.inl ⟨?hwzamb10, ?hyzamb10⟩) (by assumption) ?hrzamb10
          case hizamb10 => (simp only [List.getElem?_toArray, List.getElem?_cons_succ, List.getElem?_cons_zero]; rfl)
          case hqzamb10 => exact fun _ _ _ h => h
          case hwzamb10 => rfl
          case hyzamb10 => (intro w0 hSw; (try dsimp only at hSw); go_simp; try with_reducible rfl)
          (try simp only [Act.put, List.setIfInBounds_toArray, List.set_cons_zero, List.set_cons_succ])
          refine' wpAnyH_take (i := 11) ?hizamb11 (by kernel_rfl) (by kernel_rfl) (by kernel_rfl) ?hqzamb11 (Or.inl ⟨?hwzamb11, ?hyzamb11⟩) (by assumption) ?hrzamb11
          case hizamb11 => (simp only [List.getElem?_toArray, List.getElem?_cons_succ, List.getElem?_cons_zero]; rfl)
          case hqzamb11 => exact fun _ _ _ h => h
          case hwzamb11 => rfl
          case hyzamb11 => (intro w0 hSw; (try dsimp only at hSw); go_simp; try with_reducible rfl)
          (try simp only [Act.put, List.setIfInBounds_toArray, List.set_cons_zero, List.set_cons_succ])
          refine' wpAnyH_take (i := 12) ?hizamb12 (by kernel_rfl) (by kernel_rfl) (by kernel_rfl) ?hqzamb12 (Or.inl ⟨?hwzamb12, ?hyzamb12⟩) (by assumption) ?hrzamb12
          case hizamb12 => (simp only [List.getElem?_toArray, List.getElem?_cons_succ, List.getElem?_cons_zero]; rfl)
          case hqzamb12 => exact fun _ _ _ h => h
          case hwzamb12 => rfl
          case hyzamb12 => (intro w0 hSw; (try dsimp only at hSw); go_simp; try with_reducible rfl)
          (try simp only [Act.put, List.setIfInBounds_toArray, List.set_cons_zero, List.set_cons_succ])
          refine' wpAnyH_take (i := 13) ?hizamb13 (by kernel_rfl) (by kernel_rfl) (by kernel_rfl) ?hqzamb13 (Or.inl ⟨?hwzamb13, ?hyzamb13⟩) (by assumption) ?hrzamb13
          case hizamb13 => (simp only [List.getElem?_toArray, List.getElem?_cons_succ, List.getElem?_cons_zero]; rfl)
          case hqzamb13 => exact fun _ _ _ h => h
          case hwzamb13 => rfl
          case hyzamb13 => (intro w0 hSw; (try dsimp only at hSw); go_simp; try with_reducible rfl)
          (try simp only [Act.put, List.setIfInBounds_toArray, List.set_cons_zero, List.set_cons_succ])
          refine' wpAnyH_take (i := 14) ?hizamb14 (by kernel_rfl) (by kernel_rfl) (by kernel_rfl) ?hqzamb14 (Or.inl ⟨?hwzamb14, ?hyzamb14⟩) (by assumption) ?hrzamb14
          case hizamb14 => (simp only [List.getElem?_toArray, List.getElem?_cons_succ, List.getElem?_cons_zero]; rfl)
          case hqzamb14 => exact fun _ _ _ h => h
          case hwzamb14 => rfl
          case hyzamb14 => (intro w0 hSw; (try dsimp only at hSw); go_simp; try with_reducible rfl)
          (try simp only [Act.put, List.setIfInBounds_toArray, List.set_cons_zero, List.set_cons_succ])
          refine' wpAnyH_take (i := 15) ?hizamb15 (by kernel_rfl) (by kernel_rfl) (by kernel_rfl) ?hqzamb15 (Or.inl ⟨?hwzamb15, ?hyzamb15⟩) (by assumption) ?hrzamb15
          case hizamb15 => (simp only [List.getElem?_toArray, List.getElem?_cons_succ, List.getElem?_cons_zero]; rfl)
          case hqzamb15 => exact fun _ _ _ h => h
          case hwzamb15 => rfl
          case hyzamb15 => (intro w0 hSw; (try dsimp only at hSw); go_simp; try with_reducible rfl)
          (try simp only [Act.put, List.setIfInBounds_toArray, List.set_cons_zero, List.set_cons_succ])
          refine' wpAnyH_take (i := 16) ?hizamb16 (by kernel_rfl) (by kernel_rfl) (by kernel_rfl) ?hqzamb16 (Or.inl ⟨?hwzamb16, ?hyzamb16⟩) (by assumption) ?hrzamb16
          case hizamb16 => (simp only [List.getElem?_toArray, List.getElem?_cons_succ, List.getElem?_cons_zero]; rfl)
          case hqzamb16 => exact fun _ _ _ h => h
          case hwzamb16 => rfl
          case hyzamb16 => (intro w0 hSw; (try dsimp only at hSw); go_simp; try with_reducible rfl)
          (try simp only [Act.put, List.setIfInBounds_toArray, List.set_cons_zero, List.set_cons_succ])
          refine' wpAnyH_take (i := 17) (v := undef) ?hizamb17 (by kernel_rfl) (by kernel_rfl) (by kernel_rfl) ?hqzamb17 (Or.inr ⟨?hwzamb17, rfl⟩) (by assumption) ?hrzamb17
          case hizamb17 => (simp only [List.getElem?_toArray, List.getElem?_cons_succ, List.getElem?_cons_zero]; rfl)
          case hqzamb17 => exact fun _ _ _ h => h
          case hwzamb17 => rfl
          (try simp only [Act.put, List.setIfInBounds_toArray, List.set_cons_zero, List.set_cons_succ])
          refine' wpAnyH_take (i := 18) (v := undef) ?hizamb18 (by kernel_rfl) (by kernel_rfl) (by kernel_rfl) ?hqzamb18 (Or.inr ⟨?hwzamb18, rfl⟩) (by assumption) ?hrzamb18
          case hizamb18 => (simp only [List.getElem?_toArray, List.getElem?_cons_succ, List.getElem?_cons_zero]; rfl)
          case hqzamb18 => exact fun _ _ _ h => h
          case hwzamb18 => rfl
          (try simp only [Act.put, List.setIfInBounds_toArray, List.set_cons_zero, List.set_cons_succ])
          refine' wpAnyH_take (i := 19) ?hizamb19 (by kernel_rfl) (by kernel_rfl) (by kernel_rfl) ?hqzamb19 (Or.inl ⟨?hwzamb19, ?hyzamb19⟩) (by assumption) ?hrzamb19
          case hizamb19 => (simp only [List.getElem?_toArray, List.getElem?_cons_succ, List.getElem?_cons_zero]; rfl)
          case hqzamb19 => exact fun _ _ _ h => h
          case hwzamb19 => rfl
          case hyzamb19 => (intro w0 hSw; (try dsimp only at hSw); go_simp; try with_reducible rfl)
          (try simp only [Act.put, List.setIfInBounds_toArray, List.set_cons_zero, List.set_cons_succ])
          refine' wpAnyH_take (i := 20) ?hizamb20 (by kernel_rfl) (by kernel_rfl) (by kernel_rfl) ?hqzamb20 (Or.inl ⟨?hwzamb20, ?hyzamb20⟩) (by assumption) ?hrzamb20
          case hizamb20 => (simp only [List.getElem?_toArray, List.getElem?_cons_succ, List.getElem?_cons_zero]; rfl)
          case hqzamb20 => exact fun _ _ _ h => h
          case hwzamb20 => rfl
          case hyzamb20 => (intro w0 hSw; (try dsimp only at hSw); go_simp; try with_reducible rfl)
          (try simp only [Act.put, List.setIfInBounds_toArray, List.set_cons_zero, List.set_cons_succ])
          refine' wpAnyH_take (i := 21) ?hizamb21 (by kernel_rfl) (by kernel_rfl) (by kernel_rfl) ?hqzamb21 (Or.inl ⟨?hwzamb21, ?hyzamb21⟩) (by assumption) ?hrzamb21
          case hizamb21 => (simp only [List.getElem?_toArray, List.getElem?_cons_succ, List.getElem?_cons_zero]; rfl)
          case hqzamb21 => exact fun _ _ _ h => h
          case hwzamb21 => rfl
          case hyzamb21 => (intro w0 hSw; (try dsimp only at hSw); go_simp; try with_reducible rfl)
          (try simp only [Act.put, List.setIfInBounds_toArray, List.set_cons_zero, List.set_cons_succ])
          refine wpAnyH_done (by kernel_rfl) ?_ _
          clear hHeld
          go_wp2_with fail
          go_roundw
          case rel => exact ⟨false, k + 1, hkt, rfl, by push_cast; rfl, fun h => (by cases h), (HB7.out.trans (((Below.refl _ w6).drew).mono HB7.out.size)).trans (HB8.out.mono (Nat.le_trans HB7.out.size (Nat.le_refl _)))⟩
          case measure => simp [intOf]; omega
         ·
          have hne : (vk == 0) = false := beq_eq_false_iff_ne.2 hz
          have HTW := Lib.hid (HC.out hu hz)
          have hul : ((uk.length : Nat) : Int) = 0 := by rw [hu]; rfl
          obtain ⟨ul, hule⟩ : ∃ n, n = uk.length := ⟨_, rfl⟩
          rw [← hule] at hul
          have HUL := Lib.hid hule
          clear hule hu hz
          refine wp_region_held_drew (S := MdS T w (.slice ka i kc) P i g G uG) (by kernel_rfl) ?_ (fun hHeld => ?_)
          ·
           exact HM7.out.next HI.out ((Below.refl _ _).drew)
          refine' wpAnyH_take (i := 0) ?hizamc0 (by kernel_rfl) (by kernel_rfl) (by kernel_rfl) ?hqzamc0 (Or.inl ⟨?hwzamc0, ?hyzamc0⟩) (by assumption) ?hrzamc0
          case hizamc0 => (simp only [List.getElem?_toArray, List.getElem?_cons_zero]; rfl)
          case hqzamc0 => exact fun _ _ _ h => h
          case hwzamc0 => rfl
          case hyzamc0 => (intro w0 hSw; (try dsimp only at hSw); go_simp; try with_reducible rfl)
          (try simp only [Act.put, List.setIfInBounds_toArray, List.set_cons_zero, List.set_cons_succ])
          refine' wpAnyH_take (i := 1) ?hizamc1 (by kernel_rfl) (by kernel_rfl) (by kernel_rfl) ?hqzamc1 (Or.inl ⟨?hwzamc1, ?hyzamc1⟩) (by assumption) ?hrzamc1
          case hizamc1 => (simp only [List.getElem?_toArray, List.getElem?_cons_succ, List.getElem?_cons_zero]; rfl)
          case hqzamc1 => exact fun _ _ _ h => h
          case hwzamc1 => rfl
          case hyzamc1 => (intro w0 hSw; (try dsimp only at hSw); go_simp; try with_reducible rfl)
          (try simp only [Act.put, List.setIfInBounds_toArray, List.set_cons_zero, List.set_cons_succ])
          refine' wpAnyH_take (i := 2) ?hizamc2 (by kernel_rfl) (by kernel_rfl) (by kernel_rfl) ?hqzamc2 (Or.inl ⟨?hwzamc2, ?hyzamc2⟩) (by assumption) ?hrzamc2
          case hizamc2 => (simp only [List.getElem?_toArray, List.getElem?_cons_succ, List.getElem?_cons_zero]; rfl)
          case hqzamc2 => exact fun _ _ _ h => h
          case hwzamc2 => rfl
          case hyzamc2 => (intro w0 hSw; (try dsimp only at hSw); go_simp; try with_reducible rfl)
          (try simp only [Act.put, List.setIfInBounds_toArray, List.set_cons_zero, List.set_cons_succ])
          refine' wpAnyH_take (i := 3) ?hizamc3 (by kernel_rfl) (by kernel_rfl) (by kernel_rfl) ?hqzamc3 (Or.inl ⟨?hwzamc3, ?hyzamc3⟩) (by assumption) ?hrzamc3
          case hizamc3 => (simp only [List.getElem?_toArray, List.getElem?_cons_succ, List.getElem?_cons_zero]; rfl)
          case hqzamc3 => exact fun _ _ _ h => h
          case hwzamc3 => rfl
          case hyzamc3 => (intro w0 hSw; (try dsimp only at hSw); go_simp; try with_reducible rfl)
          (try simp only [Act.put, List.setIfInBounds_toArray, List.set_cons_zero, List.set_cons_succ])
          refine' wpAnyH_take (i := 4) ?hizamc4 (by kernel_rfl) (by kernel_rfl) (by kernel_rfl) ?hqzamc4 (Or.inl ⟨?hwzamc4, ?hyzamc4⟩) (by assumption) ?hrzamc4
          case hizamc4 => (simp only [List.getElem?_toArray, List.getElem?_cons_succ, List.getElem?_cons_zero]; rfl)
          case hqzamc4 => exact fun _ _ _ h => h
          case hwzamc4 => rfl
          case hyzamc4 => exact fun w0 hSw => run_exec_load rfl rfl (HL.out w0 hSw)
          (try simp only [Act.put, List.setIfInBounds_toArray, List.set_cons_zero, List.set_cons_succ])
          refine' wpAnyH_take (i := 5) ?hizamc5 (by kernel_rfl) (by kernel_rfl) (by kernel_rfl) ?hqzamc5 (Or.inl ⟨?hwzamc5, ?hyzamc5⟩) (by assumption) ?hrzamc5
          case hizamc5 => (simp only [List.getElem?_toArray, List.getElem?_cons_succ, List.getElem?_cons_zero]; rfl)
          case hqzamc5 => exact fun _ _ _ h => h
          case hwzamc5 => rfl
          case hyzamc5 => (intro w0 hSw; (try dsimp only at hSw); go_simp; try with_reducible rfl)
          (try simp only [Act.put, List.setIfInBounds_toArray, List.set_cons_zero, List.set_cons_succ])
          refine' wpAnyH_take (i := 6) ?hizamc6 (by kernel_rfl) (by kernel_rfl) (by kernel_rfl) ?hqzamc6 (Or.inl ⟨?hwzamc6, ?hyzamc6⟩) (by assumption) ?hrzamc6
          case hizamc6 => (simp only [List.getElem?_toArray, List.getElem?_cons_succ, List.getElem?_cons_zero]; rfl)
          case hqzamc6 => exact fun _ _ _ h => h
          case hwzamc6 => rfl
          case hyzamc6 => (intro w0 hSw; (try dsimp only at hSw); go_simp; try with_reducible rfl)
          (try simp only [Act.put, List.setIfInBounds_toArray, List.set_cons_zero, List.set_cons_succ])
          refine' wpAnyH_take (i := 7) ?hizamc7 (by kernel_rfl) (by kernel_rfl) (by kernel_rfl) ?hqzamc7 (Or.inl ⟨?hwzamc7, ?hyzamc7⟩) (by assumption) ?hrzamc7
          case hizamc7 => (simp only [List.getElem?_toArray, List.getElem?_cons_succ, List.getElem?_cons_zero]; rfl)
          case hqzamc7 => exact fun _ _ _ h => h
          case hwzamc7 => rfl
          case hyzamc7 => exact fun w0 hSw => exec_hi rfl rfl rfl (HSL.out w0)
          (try simp only [Act.put, List.setIfInBounds_toArray, List.set_cons_zero, List.set_cons_succ])
          refine wpAnyH_ready (rs := [8]) (by kernel_rfl) (by simp) ?_
          refine' AllReadyH.cons ?hizamc8 (fun K hK => ?hrzamc8) AllReadyH.nil
          case hizamc8 => (simp only [List.getElem?_toArray, List.getElem?_cons_succ, List.getElem?_cons_zero]; rfl)
          go_simp
          (refine (HUC.out _ hHeld).mono ?_; rintro e w8 ⟨o, rfl, ho, hb8⟩; obtain ⟨oa, oc, rfl⟩ := ho.form; rw [← HUL.out]; have HB8 := Lib.hid hb8; clear hb8 ho)
          refine hK.out _ _ ?_ (fun hHeld => ?_)
          ·
           exact hHeld.next HI.out HB8.out
          clear hK K
          (try simp only [Act.put, List.setIfInBounds_toArray, List.set_cons_zero, List.set_cons_succ])
          refine' wpAnyH_take (i := 9) ?hizamc9 (by kernel_rfl) (by kernel_rfl) (by kernel_rfl) ?hqzamc9 (Or.inl ⟨?hwzamc9, ?hyzamc9⟩) (by assumption) ?hrzamc9
          case hizamc9 => (simp only [List.getElem?_toArray, List.getElem?_cons_succ, List.getElem?_cons_zero]; rfl)
          case hqzamc9 => exact fun _ _ _ h => h
          case hwzamc9 => rfl
          case hyzamc9 => (intro w0 hSw; (try dsimp only at hSw); go_simp; try with_reducible rfl)
          (try simp only [Act.put, List.setIfInBounds_toArray, List.set_cons_zero, List.set_cons_succ])
          refine' wpAnyH_take (i := 10) ?hizamc10 (by kernel_rfl) (by kernel_rfl) (by kernel_rfl) ?hqzamc10 (Or.inl ⟨?hwzamc10, ?hyzamc10⟩) (by assumption) ?hrzamc10
          case hizamc10 => (simp only [List.getElem?_toArray, List.getElem?_cons_succ, List.getElem?_cons_zero]; rfl)
          case hqzamc10 => exact fun _ _ _ h => h
          case hwzamc10 => rfl
          case hyzamc10 => (intro w0 hSw; (try dsimp only at hSw); go_simp; try with_reducible rfl)
          (try simp only [Act.put, List.setIfInBounds_toArray, List.set_cons_zero, List.set_cons_succ])
          refine' wpAnyH_take (i := 11) ?hizamc11 (by kernel_rfl) (by kernel_rfl) (by kernel_rfl) ?hqzamc11 (Or.inl ⟨?hwzamc11, ?hyzamc11⟩) (by assumption) ?hrzamc11
          case hizamc11 => (simp only [List.getElem?_toArray, List.getElem?_cons_succ, List.getElem?_cons_zero]; rfl)
          case hqzamc11 => exact fun _ _ _ h => h
          case hwzamc11 => rfl
          case hyzamc11 => (intro w0 hSw; (try dsimp only at hSw); go_simp; try with_reducible rfl)
          (try simp only [Act.put, List.setIfInBounds_toArray, List.set_cons_zero, List.set_cons_succ])
          refine' wpAnyH_take (i := 12) ?hizamc12 (by kernel_rfl) (by kernel_rfl) (by kernel_rfl) ?hqzamc12 (Or.inl ⟨?hwzamc12, ?hyzamc12⟩) (by assumption) ?hrzamc12
          case hizamc12 => (simp only [List.getElem?_toArray, List.getElem?_cons_succ, List.getElem?_cons_zero]; rfl)
          case hqzamc12 => exact fun _ _ _ h => h
          case hwzamc12 => rfl
          case hyzamc12 => (intro w0 hSw; (try dsimp only at hSw); go_simp; try with_reducible rfl)
          (try simp only [Act.put, List.setIfInBounds_toArray, List.set_cons_zero, List.set_cons_succ])
          refine' wpAnyH_take (i := 13) ?hizamc13 (by kernel_rfl) (by kernel_rfl) (by kernel_rfl) ?hqzamc13 (Or.inl ⟨?hwzamc13, ?hyzamc13⟩) (by assumption) ?hrzamc13
          case hizamc13 => (simp only [List.getElem?_toArray, List.getElem?_cons_succ, List.getElem?_cons_zero]; rfl)
          case hqzamc13 => exact fun _ _ _ h => h
          case hwzamc13 => rfl
          case hyzamc13 => (intro w0 hSw; (try dsimp only at hSw); go_simp; try with_reducible rfl)
          (try simp only [Act.put, List.setIfInBounds_toArray, List.set_cons_zero, List.set_cons_succ])
          refine' wpAnyH_take (i := 14) (v := undef) ?hizamc14 (by kernel_rfl) (by kernel_rfl) (by kernel_rfl) ?hqzamc14 (Or.inr ⟨?hwzamc14, rfl⟩) (by assumption) ?hrzamc14
          case hizamc14 => (simp only [List.getElem?_toArray, List.getElem?_cons_succ, List.getElem?_cons_zero]; rfl)
          case hqzamc14 => exact fun _ _ _ h => h
          case hwzamc14 => rfl
          (try simp only [Act.put, List.setIfInBounds_toArray, List.set_cons_zero, List.set_cons_succ])
          refine' wpAnyH_take (i := 15) (v := undef) ?hizamc15 (by kernel_rfl) (by kernel_rfl) (by kernel_rfl) ?hqzamc15 (Or.inr ⟨?hwzamc15, rfl⟩) (by assumption) ?hrzamc15
          case hizamc15 => (simp only [List.getElem?_toArray, List.getElem?_cons_succ, List.getElem?_cons_zero]; rfl)
          case hqzamc15 => exact fun _ _ _ h => h
          case hwzamc15 => rfl
          (try simp only [Act.put, List.setIfInBounds_toArray, List.set_cons_zero, List.set_cons_succ])
          refine' wpAnyH_take (i := 16) (v := undef) ?hizamc16 (by kernel_rfl) (by kernel_rfl) (by kernel_rfl) ?hqzamc16 (Or.inr ⟨?hwzamc16, rfl⟩) (by assumption) ?hrzamc16
          case hizamc16 => (simp only [List.getElem?_toArray, List.getElem?_cons_succ, List.getElem?_cons_zero]; rfl)
          case hqzamc16 => exact fun _ _ _ h => h
          case hwzamc16 => rfl
          (try simp only [Act.put, List.setIfInBounds_toArray, List.set_cons_zero, List.set_cons_succ])
          refine' wpAnyH_take (i := 17) (v := undef) ?hizamc17 (by kernel_rfl) (by kernel_rfl) (by kernel_rfl) ?hqzamc17 (Or.inr ⟨?hwzamc17, rfl⟩) (by assumption) ?hrzamc17
          case hizamc17 => (simp only [List.getElem?_toArray, List.getElem?_cons_succ, List.getElem?_cons_zero]; rfl)
          case hqzamc17 => exact fun _ _ _ h => h
          case hwzamc17 => rfl
          (try simp only [Act.put, List.setIfInBounds_toArray, List.set_cons_zero, List.set_cons_succ])
          refine' wpAnyH_take (i := 18) (v := undef) ?hizamc18 (by kernel_rfl) (by kernel_rfl) (by kernel_rfl) ?hqzamc18 (Or.inr ⟨?hwzamc18, rfl⟩) (by assumption) ?hrzamc18
          case hizamc18 => (simp only [List.getElem?_toArray, List.getElem?_cons_succ, List.getElem?_cons_zero]; rfl)
          case hqzamc18 => exact fun _ _ _ h => h
          case hwzamc18 => rfl
          (try simp only [Act.put, List.setIfInBounds_toArray, List.set_cons_zero, List.set_cons_succ])
          refine' wpAnyH_take (i := 19) (v := undef) ?hizamc19 (by kernel_rfl) (by kernel_rfl) (by kernel_rfl) ?hqzamc19 (Or.inr ⟨?hwzamc19, rfl⟩) (by assumption) ?hrzamc19
          case hizamc19 => (simp only [List.getElem?_toArray, List.getElem?_cons_succ, List.getElem?_cons_zero]; rfl)
          case hqzamc19 => exact fun _ _ _ h => h
          case hwzamc19 => rfl
          (try simp only [Act.put, List.setIfInBounds_toArray, List.set_cons_zero, List.set_cons_succ])
          refine' wpAnyH_take (i := 20) ?hizamc20 (by kernel_rfl) (by kernel_rfl) (by kernel_rfl) ?hqzamc20 (Or.inl ⟨?hwzamc20, ?hyzamc20⟩) (by assumption) ?hrzamc20
          case hizamc20 => (simp only [List.getElem?_toArray, List.getElem?_cons_succ, List.getElem?_cons_zero]; rfl)
          case hqzamc20 => exact fun _ _ _ h => h
          case hwzamc20 => rfl
          case hyzamc20 => (intro w0 hSw; (try dsimp only at hSw); go_simp; try with_reducible rfl)
          (try simp only [Act.put, List.setIfInBounds_toArray, List.set_cons_zero, List.set_cons_succ])
          refine' wpAnyH_take (i := 21) ?hizamc21 (by kernel_rfl) (by kernel_rfl) (by kernel_rfl) ?hqzamc21 (Or.inl ⟨?hwzamc21, ?hyzamc21⟩) (by assumption) ?hrzamc21
          case hizamc21 => (simp only [List.getElem?_toArray, List.getElem?_cons_succ, List.getElem?_cons_zero]; rfl)
          case hqzamc21 => exact fun _ _ _ h => h
          case hwzamc21 => rfl
          case hyzamc21 => (intro w0 hSw; (try dsimp only at hSw); go_simp; try with_reducible rfl)
          (try simp only [Act.put, List.setIfInBounds_toArray, List.set_cons_zero, List.set_cons_succ])
          refine wpAnyH_done (by kernel_rfl) ?_ _
          clear hHeld
          go_wp2_with fail
          go_roundw
          case rel => exact ⟨true, k + 1, hkt, rfl, by push_cast; rfl, fun _ => HTW.out, (HB7.out.trans (((Below.refl _ w6).drew).mono HB7.out.size)).trans (HB8.out.mono (Nat.le_trans HB7.out.size (Nat.le_refl _)))⟩
          case measure => simp [intOf]; omega
        ·
         obtain rfl : vk = 11 := HA.out hu
         have hul : (0 : Int) < ((uk.length : Nat) : Int) := by have := List.length_pos_iff.2 hu; omega
         obtain ⟨ul, hule⟩ : ∃ n, n = uk.length := ⟨_, rfl⟩
         rw [← hule] at hul
         have hne : ((ul : Int) == 0) = false := beq_eq_false_iff_ne.2 (by omega)
         have HUL := Lib.hid hule
         clear hule hu
         refine wp_region_held_drew (S := MdS T w (.slice ka i kc) P i g G uG) (by kernel_rfl) ?_ (fun hHeld => ?_)
         ·
          exact HM7.out.next HI.out ((Below.refl _ _).drew)
         refine' wpAnyH_take (i := 0) ?hizama0 (by kernel_rfl) (by kernel_rfl) (by kernel_rfl) ?hqzama0 (Or.inl ⟨?hwzama0, ?hyzama0⟩) (by assumption) ?hrzama0
         case hizama0 => (simp only [List.getElem?_toArray, List.getElem?_cons_zero]; rfl)
         case hqzama0 => exact fun _ _ _ h => h
         case hwzama0 => rfl
         case hyzama0 => (intro w0 hSw; (try dsimp only at hSw); go_simp; try with_reducible rfl)
         (try simp only [Act.put, List.setIfInBounds_toArray, List.set_cons_zero, List.set_cons_succ])
         refine' wpAnyH_take (i := 1) ?hizama1 (by kernel_rfl) (by kernel_rfl) (by kernel_rfl) ?hqzama1 (Or.inl ⟨?hwzama1, ?hyzama1⟩) (by assumption) ?hrzama1
         case hizama1 => (simp only [List.getElem?_toArray, List.getElem?_cons_succ, List.getElem?_cons_zero]; rfl)
         case hqzama1 => exact fun _ _ _ h => h
         case hwzama1 => rfl
         case hyzama1 => (intro w0 hSw; (try dsimp only at hSw); go_simp; try with_reducible rfl)
         (try simp only [Act.put, List.setIfInBounds_toArray, List.set_cons_zero, List.set_cons_succ])
         refine' wpAnyH_take (i := 2) ?hizama2 (by kernel_rfl) (by kernel_rfl) (by kernel_rfl) ?hqzama2 (Or.inl ⟨?hwzama2, ?hyzama2⟩) (by assumption) ?hrzama2
         case hizama2 => (simp only [List.getElem?_toArray, List.getElem?_cons_succ, List.getElem?_cons_zero]; rfl)
         case hqzama2 => exact fun _ _ _ h => h
         case hwzama2 => rfl
         case hyzama2 => (intro w0 hSw; (try dsimp only at hSw); go_simp; try with_reducible rfl)
         (try simp only [Act.put, List.setIfInBounds_toArray, List.set_cons_zero, List.set_cons_succ])
         refine' wpAnyH_take (i := 3) ?hizama3 (by kernel_rfl) (by kernel_rfl) (by kernel_rfl) ?hqzama3 (Or.inl ⟨?hwzama3, ?hyzama3⟩) (by assumption) ?hrzama3
         case hizama3 => (simp only [List.getElem?_toArray, List.getElem?_cons_succ, List.getElem?_cons_zero]; rfl)
         case hqzama3 => exact fun _ _ _ h => h
         case hwzama3 => rfl
         case hyzama3 => (intro w0 hSw; (try dsimp only at hSw); go_simp; try with_reducible rfl)
         (try simp only [Act.put, List.setIfInBounds_toArray, List.set_cons_zero, List.set_cons_succ])
         refine' wpAnyH_take (i := 4) ?hizama4 (by kernel_rfl) (by kernel_rfl) (by kernel_rfl) ?hqzama4 (Or.inl ⟨?hwzama4, ?hyzama4⟩) (by assumption) ?hrzama4
         case hizama4 => (simp only [List.getElem?_toArray, List.getElem?_cons_succ, List.getElem?_cons_zero]; rfl)
         case hqzama4 => exact fun _ _ _ h => h
         case hwzama4 => rfl
         case hyzama4 => exact fun w0 hSw => run_exec_load rfl rfl (HL.out w0 hSw)
         (try simp only [Act.put, List.setIfInBounds_toArray, List.set_cons_zero, List.set_cons_succ])
         refine' wpAnyH_take (i := 5) ?hizama5 (by kernel_rfl) (by kernel_rfl) (by kernel_rfl) ?hqzama5 (Or.inl ⟨?hwzama5, ?hyzama5⟩) (by assumption) ?hrzama5
         case hizama5 => (simp only [List.getElem?_toArray, List.getElem?_cons_succ, List.getElem?_cons_zero]; rfl)
         case hqzama5 => exact fun _ _ _ h => h
         case hwzama5 => rfl
         case hyzama5 => (intro w0 hSw; (try dsimp only at hSw); go_simp; try with_reducible rfl)
         (try simp only [Act.put, List.setIfInBounds_toArray, List.set_cons_zero, List.set_cons_succ])
         refine' wpAnyH_take (i := 6) ?hizama6 (by kernel_rfl) (by kernel_rfl) (by kernel_rfl) ?hqzama6 (Or.inl ⟨?hwzama6, ?hyzama6⟩) (by assumption) ?hrzama6
         case hizama6 => (simp only [List.getElem?_toArray, List.getElem?_cons_succ, List.getElem?_cons_zero]; rfl)
         case hqzama6 => exact fun _ _ _ h => h
         case hwzama6 => rfl
         case hyzama6 => (intro w0 hSw; (try dsimp only at hSw); go_simp; try with_reducible rfl)
         (try simp only [Act.put, List.setIfInBounds_toArray, List.set_cons_zero, List.set_cons_succ])
         refine' wpAnyH_take (i := 7) ?hizama7 (by kernel_rfl) (by kernel_rfl) (by kernel_rfl) ?hqzama7 (Or.inl ⟨?hwzama7, ?hyzama7⟩) (by assumption) ?hrzama7
         case hizama7 => (simp only [List.getElem?_toArray, List.getElem?_cons_succ, List.getElem?_cons_zero]; rfl)
         case hqzama7 => exact fun _ _ _ h => h
         case hwzama7 => rfl
         case hyzama7 => exact fun w0 hSw => exec_hi rfl rfl rfl (HSL.out w0)
         (try simp only [Act.put, List.setIfInBounds_toArray, List.set_cons_zero, List.set_cons_succ])
         refine wpAnyH_ready (rs := [8]) (by kernel_rfl) (by simp) ?_
         refine' AllReadyH.cons ?hizama8 (fun K hK => ?hrzama8) AllReadyH.nil
         case hizama8 => (simp only [List.getElem?_toArray, List.getElem?_cons_succ, List.getElem?_cons_zero]; rfl)
         go_simp
         (refine (HUC.out _ hHeld).mono ?_; rintro e w8 ⟨o, rfl, ho, hb8⟩; obtain ⟨oa, oc, rfl⟩ := ho.form; rw [← HUL.out]; have HB8 := Lib.hid hb8; clear hb8 ho)
         refine hK.out _ _ ?_ (fun hHeld => ?_)
         ·
          exact hHeld.next HI.out HB8.out
         clear hK K
         (try simp only [Act.put, List.setIfInBounds_toArray, List.set_cons_zero, List.set_cons_succ])
         refine' wpAnyH_take (i := 9) ?hizama9 (by kernel_rfl) (by kernel_rfl) (by kernel_rfl) ?hqzama9 (Or.inl ⟨?hwzama9, ?hyzama9⟩) (by assumption) ?hrzama9
         case hizama9 => (simp only [List.getElem?_toArray, List.getElem?_cons_succ, List.getElem?_cons_zero]; rfl)
         case hqzama9 => exact fun _ _ _ h => h
         case hwzama9 => rfl
         case hyzama9 => (intro w0 hSw; (try dsimp only at hSw); go_simp; try with_reducible rfl)
         (try simp only [Act.put, List.setIfInBounds_toArray, List.set_cons_zero, List.set_cons_succ])
         refine' wpAnyH_take (i := 10) ?hizama10 (by kernel_rfl) (by kernel_rfl) (by kernel_rfl) ?hqzama10 (Or.inl ⟨?hwzama10, ?hyzama10⟩) (by assumption) ?hrzama10
         case hizama10 => (simp only [List.getElem?_toArray, List.getElem?_cons_succ, List.getElem?_cons_zero]; rfl)
         case hqzama10 => exact fun _ _ _ h => h
         case hwzama10 => rfl
         case hyzama10 => (intro w0 hSw; (try dsimp only at hSw); go_simp; try with_reducible rfl)
         (try simp only [Act.put, List.setIfInBounds_toArray, List.set_cons_zero, List.set_cons_succ])
         refine' wpAnyH_take (i := 11) ?hizama11 (by kernel_rfl) (by kernel_rfl) (by kernel_rfl) ?hqzama11 (Or.inl ⟨?hwzama11, ?hyzama11⟩) (by assumption) ?hrzama11
         case hizama11 => (simp only [List.getElem?_toArray, List.getElem?_cons_succ, List.getElem?_cons_zero]; rfl)
         case hqzama11 => exact fun _ _ _ h => h
         case hwzama11 => rfl
         case hyzama11 => (intro w0 hSw; (try dsimp only at hSw); go_simp; try with_reducible rfl)
         (try simp only [Act.put, List.setIfInBounds_toArray, List.set_cons_zero, List.set_cons_succ])
         refine' wpAnyH_take (i := 12) ?hizama12 (by kernel_rfl) (by kernel_rfl) (by kernel_rfl) ?hqzama12 (Or.inl ⟨?hwzama12, ?hyzama12⟩) (by assumption) ?hrzama12
         case hizama12 => (simp only [List.getElem?_toArray, List.getElem?_cons_succ, List.getElem?_cons_zero]; rfl)
         case hqzama12 => exact fun _ _ _ h => h
         case hwzama12 => rfl
         case hyzama12 => (intro w0 hSw; (try dsimp only at hSw); go_simp; try with_reducible rfl)
         (try simp only [Act.put, List.setIfInBounds_toArray, List.set_cons_zero, List.set_cons_succ])
         refine' wpAnyH_take (i := 13) ?hizama13 (by kernel_rfl) (by kernel_rfl) (by kernel_rfl) ?hqzama13 (Or.inl ⟨?hwzama13, ?hyzama13⟩) (by assumption) ?hrzama13
         case hizama13 => (simp only [List.getElem?_toArray, List.getElem?_cons_succ, List.getElem?_cons_zero]; rfl)
         case hqzama13 => exact fun _ _ _ h => h
         case hwzama13 => rfl
         case hyzama13 => (intro w0 hSw; (try dsimp only at hSw); go_simp; try with_reducible rfl)
         (try simp only [Act.put, List.setIfInBounds_toArray, List.set_cons_zero, List.set_cons_succ])
         refine' wpAnyH_take (i := 14) ?hizama14 (by kernel_rfl) (by kernel_rfl) (by kernel_rfl) ?hqzama14 (Or.inl ⟨?hwzama14, ?hyzama14⟩) (by assumption) ?hrzama14
         case hizama14 => (simp only [List.getElem?_toArray, List.getElem?_cons_succ, List.getElem?_cons_zero]; rfl)
         case hqzama14 => exact fun _ _ _ h => h
         case hwzama14 => rfl
         case hyzama14 => (intro w0 hSw; (try dsimp only at hSw); go_simp; try with_reducible rfl)
         (try simp only [Act.put, List.setIfInBounds_toArray, List.set_cons_zero, List.set_cons_succ])
         refine' wpAnyH_take (i := 15) ?hizama15 (by kernel_rfl) (by kernel_rfl) (by kernel_rfl) ?hqzama15 (Or.inl ⟨?hwzama15, ?hyzama15⟩) (by assumption) ?hrzama15
         case hizama15 => (simp only [List.getElem?_toArray, List.getElem?_cons_succ, List.getElem?_cons_zero]; rfl)
         case hqzama15 => exact fun _ _ _ h => h
         case hwzama15 => rfl
         case hyzama15 => (intro w0 hSw; (try dsimp only at hSw); go_simp; try with_reducible rfl)
         (try simp only [Act.put, List.setIfInBounds_toArray, List.set_cons_zero, List.set_cons_succ])
         refine' wpAnyH_take (i := 16) ?hizama16 (by kernel_rfl) (by kernel_rfl) (by kernel_rfl) ?hqzama16 (Or.inl ⟨?hwzama16, ?hyzama16⟩) (by assumption) ?hrzama16
         case hizama16 => (simp only [List.getElem?_toArray, List.getElem?_cons_succ, List.getElem?_cons_zero]; rfl)
         case hqzama16 => exact fun _ _ _ h => h
         case hwzama16 => rfl
         case hyzama16 => (intro w0 hSw; (try dsimp only at hSw); go_simp; try with_reducible rfl)
         (try simp only [Act.put, List.setIfInBounds_toArray, List.set_cons_zero, List.set_cons_succ])
         refine' wpAnyH_take (i := 17) ?hizama17 (by kernel_rfl) (by kernel_rfl) (by kernel_rfl) ?hqzama17 (Or.inl ⟨?hwzama17, ?hyzama17⟩) (by assumption) ?hrzama17
         case hizama17 => (simp only [List.getElem?_toArray, List.getElem?_cons_succ, List.getElem?_cons_zero]; rfl)
         case hqzama17 => exact fun _ _ _ h => h
         case hwzama17 => rfl
         case hyzama17 => (intro w0 hSw; (try dsimp only at hSw); go_simp; try with_reducible rfl)
         (try simp only [Act.put, List.setIfInBounds_toArray, List.set_cons_zero, List.set_cons_succ])
         refine' wpAnyH_take (i := 18) ?hizama18 (by kernel_rfl) (by kernel_rfl) (by kernel_rfl) ?hqzama18 (Or.inl ⟨?hwzama18, ?hyzama18⟩) (by assumption) ?hrzama18
         case hizama18 => (simp only [List.getElem?_toArray, List.getElem?_cons_succ, List.getElem?_cons_zero]; rfl)
         case hqzama18 => exact fun _ _ _ h => h
         case hwzama18 => rfl
         case hyzama18 => (intro w0 hSw; (try dsimp only at hSw); go_simp; try with_reducible rfl)
         (try simp only [Act.put, List.setIfInBounds_toArray, List.set_cons_zero, List.set_cons_succ])
         refine' wpAnyH_take (i := 19) ?hizama19 (by kernel_rfl) (by kernel_rfl) (by kernel_rfl) ?hqzama19 (Or.inl ⟨?hwzama19, ?hyzama19⟩) (by assumption) ?hrzama19
         case hizama19 => (simp only [List.getElem?_toArray, List.getElem?_cons_succ, List.getElem?_cons_zero]; rfl)
         case hqzama19 => exact fun _ _ _ h => h
         case hwzama19 => rfl
         case hyzama19 => (intro w0 hSw; (try dsimp only at hSw); go_simp; try with_reducible rfl)
         (try simp only [Act.put, List.setIfInBounds_toArray, List.set_cons_zero, List.set_cons_succ])
         refine' wpAnyH_take (i := 20) ?hizama20 (by kernel_rfl) (by kernel_rfl) (by kernel_rfl) ?hqzama20 (Or.inl ⟨?hwzama20, ?hyzama20⟩) (by assumption) ?hrzama20
         case hizama20 => (simp only [List.getElem?_toArray, List.getElem?_cons_succ, List.getElem?_cons_zero]; rfl)
         case hqzama20 => exact fun _ _ _ h => h
         case hwzama20 => rfl
         case hyzama20 => (intro w0 hSw; (try dsimp only at hSw); go_simp; try with_reducible rfl)
         (try simp only [Act.put, List.setIfInBounds_toArray, List.set_cons_zero, List.set_cons_succ])
         refine' wpAnyH_take (i := 21) ?hizama21 (by kernel_rfl) (by kernel_rfl) (by kernel_rfl) ?hqzama21 (Or.inl ⟨?hwzama21, ?hyzama21⟩) (by assumption) ?hrzama21
         case hizama21 => (simp only [List.getElem?_toArray, List.getElem?_cons_succ, List.getElem?_cons_zero]; rfl)
         case hqzama21 => exact fun _ _ _ h => h
         case hwzama21 => rfl
         case hyzama21 => (intro w0 hSw; (try dsimp only at hSw); go_simp; try with_reducible rfl)
         (try simp only [Act.put, List.setIfInBounds_toArray, List.set_cons_zero, List.set_cons_succ])
         refine wpAnyH_done (by kernel_rfl) ?_ _
         clear hHeld
         go_wp2_with fail
         go_roundw
         case rel => exact ⟨false, k + 1, hkt, rfl, by push_cast; rfl, fun h => (by cases h), (HB7.out.trans (((Below.refl _ w6).drew).mono HB7.out.size)).trans (HB8.out.mono (Nat.le_trans HB7.out.size (Nat.le_refl _)))⟩
         case measure => simp [intOf]; omega
      ·
       obtain rfl : k = i := by omega
       have hsepk := HC.out.own.1
       obtain ⟨kv2, w9, hrun, ho9, ht9, -⟩ := push_hd hm.c.own G uG HCOM.out hm.p (fun hne b off n c e hkk => absurd (HNW.out hne b off n c e) (by have := hsepk.lt hkk; have := HS.out; have := HSR.out; omega)) (by have := hm.c.len; omega) (fun b hb => (show w.heap.size ≤ b by have := hm.c.below.size; omega)) 27
       have hlg := run_load_hd hm.b HCOM.out
       have hbl9 : Below w.heap.size w w9 := hm.c.below.trans (ht9.below fun b hb => by
        rcases hb with hb | hb
        ·
         exact hm.c.own.1.2.2 b hb
        ·
         have := hm.c.below.size; omega)
       have hgood : ∀ p ∈ P ++ [(G, uG)], checkH p.1 = 0 ∧ p.1.height ≤ ((k + 1 : Nat) : Int) ∧ p.1.topic = [99, 97] := fun p hp => (List.mem_append.1 hp).elim (fun h => by
        have := hm.c.good p h
        exact ⟨this.1, by have := this.2.1; push_cast; omega, this.2.2⟩) (fun h => by rw [List.mem_singleton.1 h]; exact ⟨HG0.out, HGH.out, HGT.out⟩)
       have hlen : (P ++ [(G, uG)]).length = k + 1 := by rw [List.length_append, List.length_singleton, hm.c.len]
       have ht9' : T w9 := HI.out.next HT0.out hbl9
       have HC9 : Hid (ChS T w kv2 (P ++ [(G, uG)]) (k + 1) w9) := Lib.hid ⟨ht9', ho9, hgood, hlen, hbl9⟩
       clear hft hb hm hsepk ho9 ht9 hbl9 hgood hlen ht9'
       cases fl with
       | true =>
        have HTW : Hid (Twin (hs (P ++ [(G, uG)]))) := Lib.hid ((HFT.out rfl).mono fun a ha => by unfold hs at ha ⊢; rw [List.map_append]; exact List.mem_append_left _ ha)
        go_wp2_with (first
         | ((with_reducible refine step_load (t := 26) (x := .tmp 10) (p := ?lpzamx1) (v := ?lvzamx1) ?lgzamx1 ?lozamx1 ?lxzamx1 ?lrzamx1 ?lhzamx1); (case lgzamx1 => rfl); (case lozamx1 => rfl); (case lxzamx1 => rfl); (case lrzamx1 => exact hlg))
         | ((with_reducible refine hds.step_build1h (x := .tmp 109) (h := ?bhzamx2) (v := ?bvzamx2) ?bgzamx2 ?bozamx2 ?bxzamx2 ?blzamx2 ?bkzamx2); (case bgzamx2 => rfl); (case bozamx2 => rfl); (case bxzamx2 => rfl); (case blzamx2 => exact HCOM.out))
         | ((with_reducible refine step_append (s := .tmp 108) (x := .tmp 110) (t := 27) (vs := ?aszamx3) (vx := ?axzamx3) (v' := ?avzamx3) (w' := ?awzamx3) ?agzamx3 ?aozamx3 ?apzamx3 ?aqzamx3 ?arzamx3 ?ahzamx3); (case agzamx3 => rfl); (case aozamx3 => rfl); (case apzamx3 => rfl); (case aqzamx3 => rfl); (case arzamx3 => exact hrun)))
        refine bodyPost_ret (results_tmp2 rfl _ _ _) rfl ?_
        exact ⟨_, P ++ [(G, uG)], false, rfl, HC9.out.hsv (by omega), HC9.out.few, by have := HC9.out.len; omega, fun _ => HTW.out, HC9.out.below⟩
       | false =>
        go_wp2_with (first
         | ((with_reducible refine step_load (t := 26) (x := .tmp 10) (p := ?lpzamy1) (v := ?lvzamy1) ?lgzamy1 ?lozamy1 ?lxzamy1 ?lrzamy1 ?lhzamy1); (case lgzamy1 => rfl); (case lozamy1 => rfl); (case lxzamy1 => rfl); (case lrzamy1 => exact hlg))
         | ((with_reducible refine hds.step_build1h (x := .tmp 109) (h := ?bhzamy2) (v := ?bvzamy2) ?bgzamy2 ?bozamy2 ?bxzamy2 ?blzamy2 ?bkzamy2); (case bgzamy2 => rfl); (case bozamy2 => rfl); (case bxzamy2 => rfl); (case blzamy2 => exact HCOM.out))
         | ((with_reducible refine step_append (s := .tmp 108) (x := .tmp 110) (t := 27) (vs := ?aszamy3) (vx := ?axzamy3) (v' := ?avzamy3) (w' := ?awzamy3) ?agzamy3 ?aozamy3 ?apzamy3 ?aqzamy3 ?arzamy3 ?ahzamy3); (case agzamy3 => rfl); (case aozamy3 => rfl); (case apzamy3 => rfl); (case aqzamy3 => rfl); (case arzamy3 => exact hrun)))
        go_roundw
        case rel => exact ⟨P ++ [(G, uG)], k + 1, hlt.1, hlt.2, by push_cast; rfl, HC9.out⟩
        case measure => simp [intOf]; omega
    ·
     have hne : (vK != 0) = true := bne_iff_ne.2 hvz
     have HTK := Lib.hid (HVT.out hvz)
     clear hvz
     go_upto_region 13 with (first
      | ((with_reducible refine step_load_w (t := 26) (x := .tmp 10) (p := ?lpzak) (v := ?lvzak) ?lgzak ?lozak ?lxzak ?lrzak ?lhzak); (case lozak => rfl); (case lgzak => rfl); (case lxzak => rfl); (case lrzak => exact hlg))
      | (go_at_call 8; (with_reducible refine HV4.out.mono ?_); rintro e w5 ⟨rfl, hb5⟩; have HM5 := Lib.hid (HM4.out.next HI.out hb5); clear hb5 HV4))
     clear hlg HM4
     clear HVT
     obtain ⟨w5, hw5⟩ : ∃ u, u = w5 := ⟨_, rfl⟩
     rw [← hw5] at HM5 ⊢
     have HM6 := HM5
     clear hw5
     go_wp2_with fail
     go_loopw [12, 13, 14] (fun bv jv _ wr => ∃ (fl : Bool) (k : Nat), k ≤ i ∧ bv = .bool fl ∧ jv = .int .i64 (k : Int) ∧ (fl = true → Twin (hs P)) ∧ Below w5.heap.size w5 wr) (fun _ jv _ _ => i - (intOf jv).toNat)
     case atStart => exact ⟨true, 0, Nat.zero_le _, rfl, rfl, fun _ => HTK.out, Below.refl _ _⟩
     case round =>
      clear HM6
      obtain ⟨fl, k, hki, rfl, rfl, hft, hb⟩ := hrel
      have k0 : (0 : Int) ≤ (k : Int) := Int.natCast_nonneg _
      have HFT := Lib.hid hft
      have HB := Lib.hid hb
      have hm := HM5.out.next HI.out hb
      by_cases hkt : k < i
      ·
       have kI : (k : Int) < (i : Int) := by omega
       have HM := Lib.hid hm
       have hks := slice_hi_h (hm.c.hsv hi10) k (Nat.le_of_lt hkt) wr
       have HSL : Hid (∀ u : World, _) := Lib.hid (fun u => (slice_hi_h (hm.c.hsv hi10) k (Nat.le_of_lt hkt) u).1)
       have HV : Hid (∀ u, MdS T w (.slice ka i kc) P i g G uG u → HsV u (.slice ka k kc) (P.take k)) := Lib.hid fun u h => (slice_hi_h (h.c.hsv hi10) k (Nat.le_of_lt hkt) u).2
       have htl : (P.take k).length ≤ 1000 := by rw [List.length_take, hm.c.len]; omega
       obtain ⟨vk, hvk⟩ : ∃ x, x = verdictL G (hs (P.take k)) := ⟨_, rfl⟩
       obtain ⟨uk, huk⟩ : ∃ x, x = unknownR G (hs (P.take k)) := ⟨_, rfl⟩
       have HVC := Lib.hid (fun u (h : MdS T w (.slice ka i kc) P i g G uG u) => HI.out.verdict G uG (.slice ka k kc) (P.take k) u h.c.t HCOM.out h.p HG4.out HGT2.out (HV.out u h) (h.c.few.take k) htl)
       have HUC := Lib.hid (fun u (h : MdS T w (.slice ka i kc) P i g G uG u) => HI.out.unknown G uG (.slice ka k kc) (P.take k) u h.c.t HCOM.out h.p HG4.out (HV.out u h) (h.c.few.take k) htl)
       rw [← hvk] at HVC
       rw [← huk] at HUC
       have HL := Lib.hid (fun u (h : MdS T w (.slice ka i kc) P i g G uG u) => run_load_hd h.b HCOM.out)
       have HA : Hid (uk ≠ [] → vk = 11) := Lib.hid fun h => by rw [hvk]; exact verdict_no HG0.out (by rw [← huk]; exact h)
       have HC : Hid (uk = [] → vk ≠ 0 → Twin (hs P)) := Lib.hid fun h hne => by
        by_cases ht : Twin (hs P)
        ·
         exact ht
        ·
         have := HVM.out (hs (P.take k)) (take_hs P k) ht
         rw [← hvk, ← huk, if_pos h] at this
         exact absurd this hne
       clear hft hb hm hks htl hvk huk
       go_upto_region 16 with fail
       refine wp_region_held_drew (S := MdS T w (.slice ka i kc) P i g G uG) (by kernel_rfl) ?_ (fun hHeld => ?_)
       ·
        exact HM.out.next HI.out ((Below.refl _ _).drew)
       refine' wpAnyH_take (i := 0) ?hizanr0 (by kernel_rfl) (by kernel_rfl) (by kernel_rfl) ?hqzanr0 (Or.inl ⟨?hwzanr0, ?hyzanr0⟩) (by assumption) ?hrzanr0
       case hizanr0 => (simp only [List.getElem?_toArray, List.getElem?_cons_zero]; rfl)
       case hqzanr0 => exact fun _ _ _ h => h
       case hwzanr0 => rfl
       case hyzanr0 => exact fun w0 hSw => run_exec_load rfl rfl (HL.out w0 hSw)
       (try simp only [Act.put, List.setIfInBounds_toArray, List.set_cons_zero, List.set_cons_succ])
       refine' wpAnyH_take (i := 1) ?hizanr1 (by kernel_rfl) (by kernel_rfl) (by kernel_rfl) ?hqzanr1 (Or.inl ⟨?hwzanr1, ?hyzanr1⟩) (by assumption) ?hrzanr1
       case hizanr1 => (simp only [List.getElem?_toArray, List.getElem?_cons_succ, List.getElem?_cons_zero]; rfl)
       case hqzanr1 => exact fun _ _ _ h => h
       case hwzanr1 => rfl
       case hyzanr1 => (intro w0 hSw; (try dsimp only at hSw); go_simp; try with_reducible rfl)
       (try simp only [Act.put, List.setIfInBounds_toArray, List.set_cons_zero, List.set_cons_succ])
       refine' wpAnyH_take (i := 2) ?hizanr2 (by kernel_rfl) (by kernel_rfl) (by kernel_rfl) ?hqzanr2 (Or.inl ⟨?hwzanr2, ?hyzanr2⟩) (by assumption) ?hrzanr2
       case hizanr2 => (simp only [List.getElem?_toArray, List.getElem?_cons_succ, List.getElem?_cons_zero]; rfl)
       case hqzanr2 => exact fun _ _ _ h => h
       case hwzanr2 => rfl
       case hyzanr2 => (intro w0 hSw; (try dsimp only at hSw); go_simp; try with_reducible rfl)
       (try simp only [Act.put, List.setIfInBounds_toArray, List.set_cons_zero, List.set_cons_succ])
       refine' wpAnyH_take (i := 3) ?hizanr3 (by kernel_rfl) (by kernel_rfl) (by kernel_rfl) ?hqzanr3 (Or.inl ⟨?hwzanr3, ?hyzanr3⟩) (by assumption) ?hrzanr3
       case hizanr3 => (simp only [List.getElem?_toArray, List.getElem?_cons_succ, List.getElem?_cons_zero]; rfl)
       case hqzanr3 => exact fun _ _ _ h => h
       case hwzanr3 => rfl
       case hyzanr3 => exact fun w0 hSw => exec_hi rfl rfl rfl (HSL.out w0)
       (try simp only [Act.put, List.setIfInBounds_toArray, List.set_cons_zero, List.set_cons_succ])
       refine wpAnyH_ready (rs := [4]) (by kernel_rfl) (by simp) ?_
       refine' AllReadyH.cons ?hizanr4 (fun K hK => ?hrzanr4) AllReadyH.nil
       case hizanr4 => (simp only [List.getElem?_toArray, List.getElem?_cons_succ, List.getElem?_cons_zero]; rfl)
       go_simp
       (refine (HVC.out _ hHeld).mono ?_; rintro e w6 ⟨rfl, hb6⟩; have HB6 := Lib.hid hb6; clear hb6)
       refine hK.out _ _ ?_ (fun hHeld => ?_)
       ·
        exact hHeld.next HI.out HB6.out
       clear hK K
       (try simp only [Act.put, List.setIfInBounds_toArray, List.set_cons_zero, List.set_cons_succ])
       refine' wpAnyH_take (i := 5) ?hizanr5 (by kernel_rfl) (by kernel_rfl) (by kernel_rfl) ?hqzanr5 (Or.inl ⟨?hwzanr5, ?hyzanr5⟩) (by assumption) ?hrzanr5
       case hizanr5 => (simp only [List.getElem?_toArray, List.getElem?_cons_succ, List.getElem?_cons_zero]; rfl)
       case hqzanr5 => exact fun _ _ _ h => h
       case hwzanr5 => rfl
       case hyzanr5 => (intro w0 hSw; (try dsimp only at hSw); go_simp; try with_reducible rfl)
       (try simp only [Act.put, List.setIfInBounds_toArray, List.set_cons_zero, List.set_cons_succ])
       refine wpAnyH_done (by kernel_rfl) ?_ _
       have HM7 := Lib.hid hHeld
       have HB7 := Lib.hid (HB.out.trans ((((Below.refl _ wr).drew).trans HB6.out).mono HB.out.size))
       clear hHeld HM
       go_upto_region 17 with fail
       cases fl with
       | true =>
        refine wp_region_held_drew (S := MdS T w (.slice ka i kc) P i g G uG) (by kernel_rfl) ?_ (fun hHeld => ?_)
        ·
         exact HM7.out.next HI.out ((Below.refl _ _).drew)
        refine' wpAnyH_take (i := 0) ?hizant0 (by kernel_rfl) (by kernel_rfl) (by kernel_rfl) ?hqzant0 (Or.inl ⟨?hwzant0, ?hyzant0⟩) (by assumption) ?hrzant0
        case hizant0 => (simp only [List.getElem?_toArray, List.getElem?_cons_zero]; rfl)
        case hqzant0 => exact fun _ _ _ h => h
        case hwzant0 => rfl
        case hyzant0 => (intro w0 hSw; (try dsimp only at hSw); go_simp; try with_reducible rfl)
        (try simp only [Act.put, List.setIfInBounds_toArray, List.set_cons_zero, List.set_cons_succ])
        refine' wpAnyH_take (i := 1) ?hizant1 (by kernel_rfl) (by kernel_rfl) (by kernel_rfl) ?hqzant1 (Or.inl ⟨?hwzant1, ?hyzant1⟩) (by assumption) ?hrzant1
        case hizant1 => (simp only [List.getElem?_toArray, List.getElem?_cons_succ, List.getElem?_cons_zero]; rfl)
        case hqzant1 => exact fun _ _ _ h => h
        case hwzant1 => rfl
        case hyzant1 => (intro w0 hSw; (try dsimp only at hSw); go_simp; try with_reducible rfl)
        (try simp only [Act.put, List.setIfInBounds_toArray, List.set_cons_zero, List.set_cons_succ])
        refine' wpAnyH_take (i := 2) (v := undef) ?hizant2 (by kernel_rfl) (by kernel_rfl) (by kernel_rfl) ?hqzant2 (Or.inr ⟨?hwzant2, rfl⟩) (by assumption) ?hrzant2
        case hizant2 => (simp only [List.getElem?_toArray, List.getElem?_cons_succ, List.getElem?_cons_zero]; rfl)
        case hqzant2 => exact fun _ _ _ h => h
        case hwzant2 => rfl
        (try simp only [Act.put, List.setIfInBounds_toArray, List.set_cons_zero, List.set_cons_succ])
        refine' wpAnyH_take (i := 3) (v := undef) ?hizant3 (by kernel_rfl) (by kernel_rfl) (by kernel_rfl) ?hqzant3 (Or.inr ⟨?hwzant3, rfl⟩) (by assumption) ?hrzant3
        case hizant3 => (simp only [List.getElem?_toArray, List.getElem?_cons_succ, List.getElem?_cons_zero]; rfl)
        case hqzant3 => exact fun _ _ _ h => h
        case hwzant3 => rfl
        (try simp only [Act.put, List.setIfInBounds_toArray, List.set_cons_zero, List.set_cons_succ])
        refine' wpAnyH_take (i := 4) (v := undef) ?hizant4 (by kernel_rfl) (by kernel_rfl) (by kernel_rfl) ?hqzant4 (Or.inr ⟨?hwzant4, rfl⟩) (by assumption) ?hrzant4
        case hizant4 => (simp only [List.getElem?_toArray, List.getElem?_cons_succ, List.getElem?_cons_zero]; rfl)
        case hqzant4 => exact fun _ _ _ h => h
        case hwzant4 => rfl
        (try simp only [Act.put, List.setIfInBounds_toArray, List.set_cons_zero, List.set_cons_succ])
        refine' wpAnyH_take (i := 5) (v := undef) ?hizant5 (by kernel_rfl) (by kernel_rfl) (by kernel_rfl) ?hqzant5 (Or.inr ⟨?hwzant5, rfl⟩) (by assumption) ?hrzant5
        case hizant5 => (simp only [List.getElem?_toArray, List.getElem?_cons_succ, List.getElem?_cons_zero]; rfl)
        case hqzant5 => exact fun _ _ _ h => h
        case hwzant5 => rfl
        (try simp only [Act.put, List.setIfInBounds_toArray, List.set_cons_zero, List.set_cons_succ])
        refine' wpAnyH_take (i := 6) (v := undef) ?hizant6 (by kernel_rfl) (by kernel_rfl) (by kernel_rfl) ?hqzant6 (Or.inr ⟨?hwzant6, rfl⟩) (by assumption) ?hrzant6
        case hizant6 => (simp only [List.getElem?_toArray, List.getElem?_cons_succ, List.getElem?_cons_zero]; rfl)
        case hqzant6 => exact fun _ _ _ h => h
        case hwzant6 => rfl
        (try simp only [Act.put, List.setIfInBounds_toArray, List.set_cons_zero, List.set_cons_succ])
        refine' wpAnyH_take (i := 7) (v := undef) ?hizant7 (by kernel_rfl) (by kernel_rfl) (by kernel_rfl) ?hqzant7 (Or.inr ⟨?hwzant7, rfl⟩) (by assumption) ?hrzant7
        case hizant7 => (simp only [List.getElem?_toArray, List.getElem?_cons_succ, List.getElem?_cons_zero]; rfl)
        case hqzant7 => exact fun _ _ _ h => h
        case hwzant7 => rfl
        (try simp only [Act.put, List.setIfInBounds_toArray, List.set_cons_zero, List.set_cons_succ])
        refine' wpAnyH_take (i := 8) (v := undef) ?hizant8 (by kernel_rfl) (by kernel_rfl) (by kernel_rfl) ?hqzant8 (Or.inr ⟨?hwzant8, rfl⟩) (by assumption) ?hrzant8
        case hizant8 => (simp only [List.getElem?_toArray, List.getElem?_cons_succ, List.getElem?_cons_zero]; rfl)
        case hqzant8 => exact fun _ _ _ h => h
        case hwzant8 => rfl
        (try simp only [Act.put, List.setIfInBounds_toArray, List.set_cons_zero, List.set_cons_succ])
        refine' wpAnyH_take (i := 9) (v := undef) ?hizant9 (by kernel_rfl) (by kernel_rfl) (by kernel_rfl) ?hqzant9 (Or.inr ⟨?hwzant9, rfl⟩) (by assumption) ?hrzant9
        case hizant9 => (simp only [List.getElem?_toArray, List.getElem?_cons_succ, List.getElem?_cons_zero]; rfl)
        case hqzant9 => exact fun _ _ _ h => h
        case hwzant9 => rfl
        (try simp only [Act.put, List.setIfInBounds_toArray, List.set_cons_zero, List.set_cons_succ])
        refine' wpAnyH_take (i := 10) (v := undef) ?hizant10 (by kernel_rfl) (by kernel_rfl) (by kernel_rfl) ?hqzant10 (Or.inr ⟨?hwzant10, rfl⟩) (by assumption) ?hrzant10
        case hizant10 => (simp only [List.getElem?_toArray, List.getElem?_cons_succ, List.getElem?_cons_zero]; rfl)
        case hqzant10 => exact fun _ _ _ h => h
        case hwzant10 => rfl
        (try simp only [Act.put, List.setIfInBounds_toArray, List.set_cons_zero, List.set_cons_succ])
        refine' wpAnyH_take (i := 11) (v := undef) ?hizant11 (by kernel_rfl) (by kernel_rfl) (by kernel_rfl) ?hqzant11 (Or.inr ⟨?hwzant11, rfl⟩) (by assumption) ?hrzant11
        case hizant11 => (simp only [List.getElem?_toArray, List.getElem?_cons_succ, List.getElem?_cons_zero]; rfl)
        case hqzant11 => exact fun _ _ _ h => h
        case hwzant11 => rfl
        (try simp only [Act.put, List.setIfInBounds_toArray, List.set_cons_zero, List.set_cons_succ])
        refine' wpAnyH_take (i := 12) ?hizant12 (by kernel_rfl) (by kernel_rfl) (by kernel_rfl) ?hqzant12 (Or.inl ⟨?hwzant12, ?hyzant12⟩) (by assumption) ?hrzant12
        case hizant12 => (simp only [List.getElem?_toArray, List.getElem?_cons_succ, List.getElem?_cons_zero]; rfl)
        case hqzant12 => exact fun _ _ _ h => h
        case hwzant12 => rfl
        case hyzant12 => (intro w0 hSw; (try dsimp only at hSw); go_simp; try with_reducible rfl)
        (try simp only [Act.put, List.setIfInBounds_toArray, List.set_cons_zero, List.set_cons_succ])
        refine' wpAnyH_take (i := 13) ?hizant13 (by kernel_rfl) (by kernel_rfl) (by kernel_rfl) ?hqzant13 (Or.inl ⟨?hwzant13, ?hyzant13⟩) (by assumption) ?hrzant13
        case hizant13 => (simp only [List.getElem?_toArray, List.getElem?_cons_succ, List.getElem?_cons_zero]; rfl)
        case hqzant13 => exact fun _ _ _ h => h
        case hwzant13 => rfl
        case hyzant13 => (intro w0 hSw; (try dsimp only at hSw); go_simp; try with_reducible rfl)
        (try simp only [Act.put, List.setIfInBounds_toArray, List.set_cons_zero, List.set_cons_succ])
        refine' wpAnyH_take (i := 14) (v := undef) ?hizant14 (by kernel_rfl) (by kernel_rfl) (by kernel_rfl) ?hqzant14 (Or.inr ⟨?hwzant14, rfl⟩) (by assumption) ?hrzant14
        case hizant14 => (simp only [List.getElem?_toArray, List.getElem?_cons_succ, List.getElem?_cons_zero]; rfl)
        case hqzant14 => exact fun _ _ _ h => h
        case hwzant14 => rfl
        (try simp only [Act.put, List.setIfInBounds_toArray, List.set_cons_zero, List.set_cons_succ])
        refine' wpAnyH_take (i := 15) (v := undef) ?hizant15 (by kernel_rfl) (by kernel_rfl) (by kernel_rfl) ?hqzant15 (Or.inr ⟨?hwzant15, rfl⟩) (by assumption) ?hrzant15
        case hizant15 => (simp only [List.getElem?_toArray, List.getElem?_cons_succ, List.getElem?_cons_zero]; rfl)
        case hqzant15 => exact fun _ _ _ h => h
        case hwzant15 => rfl
        (try simp only [Act.put, List.setIfInBounds_toArray, List.set_cons_zero, List.set_cons_succ])
        refine' wpAnyH_take (i := 16) (v := undef) ?hizant16 (by kernel_rfl) (by kernel_rfl) (by kernel_rfl) ?hqzant16 (Or.inr ⟨?hwzant16, rfl⟩) (by assumption) ?hrzant16
        case hizant16 => (simp only [List.getElem?_toArray, List.getElem?_cons_succ, List.getElem?_cons_zero]; rfl)
        case hqzant16 => exact fun _ _ _ h => h
        case hwzant16 => rfl
        (try simp only [Act.put, List.setIfInBounds_toArray, List.set_cons_zero, List.set_cons_succ])
        refine' wpAnyH_take (i := 17) (v := undef) ?hizant17 (by kernel_rfl) (by kernel_rfl) (by kernel_rfl) ?hqzant17 (Or.inr ⟨?hwzant17, rfl⟩) (by assumption) ?hrzant17
        case hizant17 => (simp only [List.getElem?_toArray, List.getElem?_cons_succ, List.getElem?_cons_zero]; rfl)
        case hqzant17 => exact fun _ _ _ h => h
        case hwzant17 => rfl
        (try simp only [Act.put, List.setIfInBounds_toArray, List.set_cons_zero, List.set_cons_succ])
        refine' wpAnyH_take (i := 18) (v := undef) ?hizant18 (by kernel_rfl) (by kernel_rfl) (by kernel_rfl) ?hqzant18 (Or.inr ⟨?hwzant18, rfl⟩) (by assumption) ?hrzant18
        case hizant18 => (simp only [List.getElem?_toArray, List.getElem?_cons_succ, List.getElem?_cons_zero]; rfl)
        case hqzant18 => exact fun _ _ _ h => h
        case hwzant18 => rfl
        (try simp only [Act.put, List.setIfInBounds_toArray, List.set_cons_zero, List.set_cons_succ])
        refine' wpAnyH_take (i := 19) (v := undef) ?hizant19 (by kernel_rfl) (by kernel_rfl) (by kernel_rfl) ?hqzant19 (Or.inr ⟨?hwzant19, rfl⟩) (by assumption) ?hrzant19
        case hizant19 => (simp only [List.getElem?_toArray, List.getElem?_cons_succ, List.getElem?_cons_zero]; rfl)
        case hqzant19 => exact fun _ _ _ h => h
        case hwzant19 => rfl
        (try simp only [Act.put, List.setIfInBounds_toArray, List.set_cons_zero, List.set_cons_succ])
        refine' wpAnyH_take (i := 20) ?hizant20 (by kernel_rfl) (by kernel_rfl) (by kernel_rfl) ?hqzant20 (Or.inl ⟨?hwzant20, ?hyzant20⟩) (by assumption) ?hrzant20
        case hizant20 => (simp only [List.getElem?_toArray, List.getElem?_cons_succ, List.getElem?_cons_zero]; rfl)
        case hqzant20 => exact fun _ _ _ h => h
        case hwzant20 => rfl
        case hyzant20 => (intro w0 hSw; (try dsimp only at hSw); go_simp; try with_reducible rfl)
        (try simp only [Act.put, List.setIfInBounds_toArray, List.set_cons_zero, List.set_cons_succ])
        refine' wpAnyH_take (i := 21) ?hizant21 (by kernel_rfl) (by kernel_rfl) (by kernel_rfl) ?hqzant21 (Or.inl ⟨?hwzant21, ?hyzant21⟩) (by assumption) ?hrzant21
        case hizant21 => (simp only [List.getElem?_toArray, List.getElem?_cons_succ, List.getElem?_cons_zero]; rfl)
        case hqzant21 => exact fun _ _ _ h => h
        case hwzant21 => rfl
        case hyzant21 => (intro w0 hSw; (try dsimp only at hSw); go_simp; try with_reducible rfl)
        (try simp only [Act.put, List.setIfInBounds_toArray, List.set_cons_zero, List.set_cons_succ])
        refine wpAnyH_done (by kernel_rfl) ?_ _
        clear hHeld
        go_wp2_with fail
        go_roundw
        case rel => exact ⟨true, k + 1, hkt, rfl, by push_cast; rfl, HFT.out, HB7.out.trans (((Below.refl _ w6).drew).mono HB7.out.size)⟩
        case measure => simp [intOf]; omega
       | false =>
        by_cases hu : uk = []
        ·
         by_cases hz : vk = 0
         ·
          subst hz
          have hul : ((uk.length : Nat) : Int) = 0 := by rw [hu]; rfl
          obtain ⟨ul, hule⟩ : ∃ n, n = uk.length := ⟨_, rfl⟩
          rw [← hule] at hul
          have HUL := Lib.hid hule
          clear hule hu
          refine wp_region_held_drew (S := MdS T w (.slice ka i kc) P i g G uG) (by kernel_rfl) ?_ (fun hHeld => ?_)
          ·
           exact HM7.out.next HI.out ((Below.refl _ _).drew)
          refine' wpAnyH_take (i := 0) ?hizanb0 (by kernel_rfl) (by kernel_rfl) (by kernel_rfl) ?hqzanb0 (Or.inl ⟨?hwzanb0, ?hyzanb0⟩) (by assumption) ?hrzanb0
          case hizanb0 => (simp only [List.getElem?_toArray, List.getElem?_cons_zero]; rfl)
          case hqzanb0 => exact fun _ _ _ h => h
          case hwzanb0 => rfl
          case hyzanb0 => (intro w0 hSw; (try dsimp only at hSw); go_simp; try with_reducible rfl)
          (try simp only [Act.put, List.setIfInBounds_toArray, List.set_cons_zero, List.set_cons_succ])
          refine' wpAnyH_take (i := 1) ?hizanb1 (by kernel_rfl) (by kernel_rfl) (by kernel_rfl) ?hqzanb1 (Or.inl ⟨?hwzanb1, ?hyzanb1⟩) (by assumption) ?hrzanb1
          case hizanb1 => (simp only [List.getElem?_toArray, List.getElem?_cons_succ, List.getElem?_cons_zero]; rfl)
          case hqzanb1 => exact fun _ _ _ h => h
          case hwzanb1 => rfl
          case hyzanb1 => (intro w0 hSw; (try dsimp only at hSw); go_simp; try with_reducible rfl)
          (try simp only [Act.put, List.setIfInBounds_toArray, List.set_cons_zero, List.set_cons_succ])
          refine' wpAnyH_take (i := 2) ?hizanb2 (by kernel_rfl) (by kernel_rfl) (by kernel_rfl) ?hqzanb2 (Or.inl ⟨?hwzanb2, ?hyzanb2⟩) (by assumption) ?hrzanb2
          case hizanb2 => (simp only [List.getElem?_toArray, List.getElem?_cons_succ, List.getElem?_cons_zero]; rfl)
          case hqzanb2 => exact fun _ _ _ h => h
          case hwzanb2 => rfl
          case hyzanb2 => (intro w0 hSw; (try dsimp only at hSw); go_simp; try with_reducible rfl)
          (try simp only [Act.put, List.setIfInBounds_toArray, List.set_cons_zero, List.set_cons_succ])
          refine' wpAnyH_take (i := 3) ?hizanb3 (by kernel_rfl) (by kernel_rfl) (by kernel_rfl) ?hqzanb3 (Or.inl ⟨?hwzanb3, ?hyzanb3⟩) (by assumption) ?hrzanb3
          case hizanb3 => (simp only [List.getElem?_toArray, List.getElem?_cons_succ, List.getElem?_cons_zero]; rfl)
          case hqzanb3 => exact fun _ _ _ h => h
          case hwzanb3 => rfl
          case hyzanb3 => (intro w0 hSw; (try dsimp only at hSw); go_simp; try with_reducible rfl)
          (try simp only [Act.put, List.setIfInBounds_toArray, List.set_cons_zero, List.set_cons_succ])
          refine' wpAnyH_take (i := 4) ?hizanb4 (by kernel_rfl) (by kernel_rfl) (by kernel_rfl) ?hqzanb4 (Or.inl ⟨?hwzanb4, ?hyzanb4⟩) (by assumption) ?hrzanb4
          case hizanb4 => (simp only [List.getElem?_toArray, List.getElem?_cons_succ, List.getElem?_cons_zero]; rfl)
          case hqzanb4 => exact fun _ _ _ h => h
          case hwzanb4 => rfl
          case hyzanb4 => exact fun w0 hSw => run_exec_load rfl rfl (HL.out w0 hSw)
          (try simp only [Act.put, List.setIfInBounds_toArray, List.set_cons_zero, List.set_cons_succ])
          refine' wpAnyH_take (i := 5) ?hizanb5 (by kernel_rfl) (by kernel_rfl) (by kernel_rfl) ?hqzanb5 (Or.inl ⟨?hwzanb5, ?hyzanb5⟩) (by assumption) ?hrzanb5
          case hizanb5 => (simp only [List.getElem?_toArray, List.getElem?_cons_succ, List.getElem?_cons_zero]; rfl)
          case hqzanb5 => exact fun _ _ _ h => h
          case hwzanb5 => rfl
          case hyzanb5 => (intro w0 hSw; (try dsimp only at hSw); go_simp; try with_reducible rfl)
          (try simp only [Act.put, List.setIfInBounds_toArray, List.set_cons_zero, List.set_cons_succ])
          refine' wpAnyH_take (i := 6) ?hizanb6 (by kernel_rfl) (by kernel_rfl) (by kernel_rfl) ?hqzanb6 (Or.inl ⟨?hwzanb6, ?hyzanb6⟩) (by assumption) ?hrzanb6
          case hizanb6 => (simp only [List.getElem?_toArray, List.getElem?_cons_succ, List.getElem?_cons_zero]; rfl)
          case hqzanb6 => exact fun _ _ _ h => h
          case hwzanb6 => rfl
          case hyzanb6 => (intro w0 hSw; (try dsimp only at hSw); go_simp; try with_reducible rfl)
          (try simp only [Act.put, List.setIfInBounds_toArray, List.set_cons_zero, List.set_cons_succ])
          refine' wpAnyH_take (i := 7) ?hizanb7 (by kernel_rfl) (by kernel_rfl) (by kernel_rfl) ?hqzanb7 (Or.inl ⟨?hwzanb7, ?hyzanb7⟩) (by assumption) ?hrzanb7
          case hizanb7 => (simp only [List.getElem?_toArray, List.getElem?_cons_succ, List.getElem?_cons_zero]; rfl)
          case hqzanb7 => exact fun _ _ _ h => h
          case hwzanb7 => rfl
          case hyzanb7 => exact fun w0 hSw => exec_hi rfl rfl rfl (HSL.out w0)
          (try simp only [Act.put, List.setIfInBounds_toArray, List.set_cons_zero, List.set_cons_succ])
          refine wpAnyH_ready (rs := [8]) (by kernel_rfl) (by simp) ?_
          refine' AllReadyH.cons ?hizanb8 (fun K hK => ?hrzanb8) AllReadyH.nil
          case hizanb8 => (simp only [List.getElem?_toArray, List.getElem?_cons_succ, List.getElem?_cons_zero]; rfl)
          go_simp
          (refine (HUC.out _ hHeld).mono ?_; rintro e w8 ⟨o, rfl, ho, hb8⟩; obtain ⟨oa, oc, rfl⟩ := ho.form; rw [← HUL.out]; have HB8 := Lib.hid hb8; clear hb8 ho)
          refine hK.out _ _ ?_ (fun hHeld => ?_)
          ·
           exact hHeld.next HI.out HB8.out
          clear hK K
          (try simp only [Act.put, List.setIfInBounds_toArray, List.set_cons_zero, List.set_cons_succ])
          refine' wpAnyH_take (i := 9) ?hizanb9 (by kernel_rfl) (by kernel_rfl) (by kernel_rfl) ?hqzanb9 (Or.inl ⟨?hwzanb9, ?hyzanb9⟩) (by assumption) ?hrzanb9
          case hizanb9 => (simp only [List.getElem?_toArray, List.getElem?_cons_succ, List.getElem?_cons_zero]; rfl)
          case hqzanb9 => exact fun _ _ _ h => h
          case hwzanb9 => rfl
          case hyzanb9 => (intro w0 hSw; (try dsimp only at hSw); go_simp; try with_reducible rfl)
          (try simp only [Act.put, List.setIfInBounds_toArray, List.set_cons_zero, List.set_cons_succ])
          refine' wpAnyH_take (i := 10) ?hizanb10 (by kernel_rfl) (by kernel_rfl) (by kernel_rfl) ?hqzanb10 (Or.inl ⟨?hwzanb10, ?hyzanb10⟩) (by assumption) ?hrzanb10
          case hizanb10 => (simp only [List.getElem?_toArray, List.getElem?_cons_succ, List.getElem?_cons_zero]; rfl)
          case hqzanb10 => exact fun _ _ _ h => h
          case hwzanb10 => rfl
          case hyzanb10 => (intro w0 hSw; (try dsimp only at hSw); go_simp; try with_reducible rfl)
          (try simp only [Act.put, List.setIfInBounds_toArray, List.set_cons_zero, List.set_cons_succ])
          refine' wpAnyH_take (i := 11) ?hizanb11 (by kernel_rfl) (by kernel_rfl) (by kernel_rfl) ?hqzanb11 (Or.inl ⟨?hwzanb11, ?hyzanb11⟩) (by assumption) ?hrzanb11
          case hizanb11 => (simp only [List.getElem?_toArray, List.getElem?_cons_succ, List.getElem?_cons_zero]; rfl)
          case hqzanb11 => exact fun _ _ _ h => h
          case hwzanb11 => rfl
          case hyzanb11 => (intro w0 hSw; (try dsimp only at hSw); go_simp; try with_reducible rfl)
          (try simp only [Act.put, List.setIfInBounds_toArray, List.set_cons_zero, List.set_cons_succ])
          refine' wpAnyH_take (i := 12) ?hizanb12 (by kernel_rfl) (by kernel_rfl) (by kernel_rfl) ?hqzanb12 (Or.inl ⟨?hwzanb12, ?hyzanb12⟩) (by assumption) ?hrzanb12
          case hizanb12 => (simp only [List.getElem?_toArray, List.getElem?_cons_succ, List.getElem?_cons_zero]; rfl)
          case hqzanb12 => exact fun _ _ _ h => h
          case hwzanb12 => rfl
          case hyzanb12 => (intro w0 hSw; (try dsimp only at hSw); go_simp; try with_reducible rfl)
          (try simp only [Act.put, List.setIfInBounds_toArray, List.set_cons_zero, List.set_cons_succ])
          refine' wpAnyH_take (i := 13) ?hizanb13 (by kernel_rfl) (by kernel_rfl) (by kernel_rfl) ?hqzanb13 (Or.inl ⟨?hwzanb13, ?hyzanb13⟩) (by assumption) ?hrzanb13
          case hizanb13 => (simp only [List.getElem?_toArray, List.getElem?_cons_succ, List.getElem?_cons_zero]; rfl)
          case hqzanb13 => exact fun _ _ _ h => h
          case hwzanb13 => rfl
          case hyzanb13 => (intro w0 hSw; (try dsimp only at hSw); go_simp; try with_reducible rfl)
          (try simp only [Act.put, List.setIfInBounds_toArray, List.set_cons_zero, List.set_cons_succ])
          refine' wpAnyH_take (i := 14) ?hizanb14 (by kernel_rfl) (by kernel_rfl) (by kernel_rfl) ?hqzanb14 (Or.inl ⟨?hwzanb14, ?hyzanb14⟩) (by assumption) ?hrzanb14
          case hizanb14 => (simp only [List.getElem?_toArray, List.getElem?_cons_succ, List.getElem?_cons_zero]; rfl)
          case hqzanb14 => exact fun _ _ _ h => h
          case hwzanb14 => rfl
          case hyzanb14 => (intro w0 hSw; (try dsimp only at hSw); go_simp; try with_reducible rfl)
          (try simp only [Act.put, List.setIfInBounds_toArray, List.set_cons_zero, List.set_cons_succ])
          refine' wpAnyH_take (i := 15) ?hizanb15 (by kernel_rfl) (by kernel_rfl) (by kernel_rfl) ?hqzanb15 (Or.inl ⟨?hwzanb15, ?hyzanb15⟩) (by assumption) ?hrzanb15
          case hizanb15 => (simp only [List.getElem?_toArray, List.getElem?_cons_succ, List.getElem?_cons_zero]; rfl)
          case hqzanb15 => exact fun _ _ _ h => h
          case hwzanb15 => rfl
          case hyzanb15 => (intro w0 hSw; (try dsimp only at hSw); go_simp; try with_reducible rfl)
          (try simp only [Act.put, List.setIfInBounds_toArray, List.set_cons_zero, List.set_cons_succ])
          refine' wpAnyH_take (i := 16) ?hizanb16 (by kernel_rfl) (by kernel_rfl) (by kernel_rfl) ?hqzanb16 (Or.inl ⟨?hwzanb16, ?hyzanb16⟩) (by assumption) ?hrzanb16
          case hizanb16 => (simp only [List.getElem?_toArray, List.getElem?_cons_succ, List.getElem?_cons_zero]; rfl)
          case hqzanb16 => exact fun _ _ _ h => h
          case hwzanb16 => rfl
          case hyzanb16 => (intro w0 hSw; (try dsimp only at hSw); go_simp; try with_reducible rfl)
          (try simp only [Act.put, List.setIfInBounds_toArray, List.set_cons_zero, List.set_cons_succ])
          refine' wpAnyH_take (i := 17) (v := undef) ?hizanb17 (by kernel_rfl) (by kernel_rfl) (by kernel_rfl) ?hqzanb17 (Or.inr ⟨?hwzanb17, rfl⟩) (by assumption) ?hrzanb17
          case hizanb17 => (simp only [List.getElem?_toArray, List.getElem?_cons_succ, List.getElem?_cons_zero]; rfl)
          case hqzanb17 => exact fun _ _ _ h => h
          case hwzanb17 => rfl
          (try simp only [Act.put, List.setIfInBounds_toArray, List.set_cons_zero, List.set_cons_succ])
          refine' wpAnyH_take (i := 18) (v := undef) ?hizanb18 (by kernel_rfl) (by kernel_rfl) (by kernel_rfl) ?hqzanb18 (Or.inr ⟨?hwzanb18, rfl⟩) (by assumption) ?hrzanb18
          case hizanb18 => (simp only [List.getElem?_toArray, List.getElem?_cons_succ, List.getElem?_cons_zero]; rfl)
          case hqzanb18 => exact fun _ _ _ h => h
          case hwzanb18 => rfl
          (try simp only [Act.put, List.setIfInBounds_toArray, List.set_cons_zero, List.set_cons_succ])
          refine' wpAnyH_take (i := 19) ?hizanb19 (by kernel_rfl) (by kernel_rfl) (by kernel_rfl) ?hqzanb19 (Or.inl ⟨?hwzanb19, ?hyzanb19⟩) (by assumption) ?hrzanb19
          case hizanb19 => (simp only [List.getElem?_toArray, List.getElem?_cons_succ, List.getElem?_cons_zero]; rfl)
          case hqzanb19 => exact fun _ _ _ h => h
          case hwzanb19 => rfl
          case hyzanb19 => (intro w0 hSw; (try dsimp only at hSw); go_simp; try with_reducible rfl)
          (try simp only [Act.put, List.setIfInBounds_toArray, List.set_cons_zero, List.set_cons_succ])
          refine' wpAnyH_take (i := 20) ?hizanb20 (by kernel_rfl) (by kernel_rfl) (by kernel_rfl) ?hqzanb20 (Or.inl ⟨?hwzanb20, ?hyzanb20⟩) (by assumption) ?hrzanb20
          case hizanb20 => (simp only [List.getElem?_toArray, List.getElem?_cons_succ, List.getElem?_cons_zero]; rfl)
          case hqzanb20 => exact fun _ _ _ h => h
          case hwzanb20 => rfl
          case hyzanb20 => (intro w0 hSw; (try dsimp only at hSw); go_simp; try with_reducible rfl)
          (try simp only [Act.put, List.setIfInBounds_toArray, List.set_cons_zero, List.set_cons_succ])
          refine' wpAnyH_take (i := 21) ?hizanb21 (by kernel_rfl) (by kernel_rfl) (by kernel_rfl) ?hqzanb21 (Or.inl ⟨?hwzanb21, ?hyzanb21⟩) (by assumption) ?hrzanb21
          case hizanb21 => (simp only [List.getElem?_toArray, List.getElem?_cons_succ, List.getElem?_cons_zero]; rfl)
          case hqzanb21 => exact fun _ _ _ h => h
          case hwzanb21 => rfl
          case hyzanb21 => (intro w0 hSw; (try dsimp only at hSw); go_simp; try with_reducible rfl)
          (try simp only [Act.put, List.setIfInBounds_toArray, List.set_cons_zero, List.set_cons_succ])
          refine wpAnyH_done (by kernel_rfl) ?_ _
          clear hHeld
          go_wp2_with fail
          go_roundw
          case rel => exact ⟨false, k + 1, hkt, rfl, by push_cast; rfl, fun h => (by cases h), (HB7.out.trans (((Below.refl _ w6).drew).mono HB7.out.size)).trans (HB8.out.mono (Nat.le_trans HB7.out.size (Nat.le_refl _)))⟩
          case measure => simp [intOf]; omega
         ·
          have hne : (vk == 0) = false := beq_eq_false_iff_ne.2 hz
          have HTW := Lib.hid (HC.out hu hz)
          have hul : ((uk.length : Nat) : Int) = 0 := by rw [hu]; rfl
          obtain ⟨ul, hule⟩ : ∃ n, n = uk.length := ⟨_, rfl⟩
          rw [← hule] at hul
          have HUL := Lib.hid hule
          clear hule hu hz
          refine wp_region_held_drew (S := MdS T w (.slice ka i kc) P i g G uG) (by kernel_rfl) ?_ (fun hHeld => ?_)
          ·
           exact HM7.out.next HI.out ((Below.refl _ _).drew)
          refine' wpAnyH_take (i := 0) ?hizanc0 (by kernel_rfl) (by kernel_rfl) (by kernel_rfl) ?hqzanc0 (Or.inl ⟨?hwzanc0, ?hyzanc0⟩) (by assumption) ?hrzanc0
          case hizanc0 => (simp only [List.getElem?_toArray, List.getElem?_cons_zero]; rfl)
          case hqzanc0 => exact fun _ _ _ h => h
          case hwzanc0 => rfl
          case hyzanc0 => (intro w0 hSw; (try dsimp only at hSw); go_simp; try with_reducible rfl)
          (try simp only [Act.put, List.setIfInBounds_toArray, List.set_cons_zero, List.set_cons_succ])
          refine' wpAnyH_take (i := 1) ?hizanc1 (by kernel_rfl) (by kernel_rfl) (by kernel_rfl) ?hqzanc1 (Or.inl ⟨?hwzanc1, ?hyzanc1⟩) (by assumption) ?hrzanc1
          case hizanc1 => (simp only [List.getElem?_toArray, List.getElem?_cons_succ, List.getElem?_cons_zero]; rfl)
          case hqzanc1 => exact fun _ _ _ h => h
          case hwzanc1 => rfl
          case hyzanc1 => (intro w0 hSw; (try dsimp only at hSw); go_simp; try with_reducible rfl)
          (try simp only [Act.put, List.setIfInBounds_toArray, List.set_cons_zero, List.set_cons_succ])
          refine' wpAnyH_take (i := 2) ?hizanc2 (by kernel_rfl) (by kernel_rfl) (by kernel_rfl) ?hqzanc2 (Or.inl ⟨?hwzanc2, ?hyzanc2⟩) (by assumption) ?hrzanc2
          case hizanc2 => (simp only [List.getElem?_toArray, List.getElem?_cons_succ, List.getElem?_cons_zero]; rfl)
          case hqzanc2 => exact fun _ _ _ h => h
          case hwzanc2 => rfl
          case hyzanc2 => (intro w0 hSw; (try dsimp only at hSw); go_simp; try with_reducible rfl)
          (try simp only [Act.put, List.setIfInBounds_toArray, List.set_cons_zero, List.set_cons_succ])
          refine' wpAnyH_take (i := 3) ?hizanc3 (by kernel_rfl) (by kernel_rfl) (by kernel_rfl) ?hqzanc3 (Or.inl ⟨?hwzanc3, ?hyzanc3⟩) (by assumption) ?hrzanc3
          case hizanc3 => (simp only [List.getElem?_toArray, List.getElem?_cons_succ, List.getElem?_cons_zero]; rfl)
          case hqzanc3 => exact fun _ _ _ h => h
          case hwzanc3 => rfl
          case hyzanc3 => (intro w0 hSw; (try dsimp only at hSw); go_simp; try with_reducible rfl)
          (try simp only [Act.put, List.setIfInBounds_toArray, List.set_cons_zero, List.set_cons_succ])
          refine' wpAnyH_take (i := 4) ?hizanc4 (by kernel_rfl) (by kernel_rfl) (by kernel_rfl) ?hqzanc4 (Or.inl ⟨?hwzanc4, ?hyzanc4⟩) (by assumption) ?hrzanc4
          case hizanc4 => (simp only [List.getElem?_toArray, List.getElem?_cons_succ, List.getElem?_cons_zero]; rfl)
          case hqzanc4 => exact fun _ _ _ h => h
          case hwzanc4 => rfl
          case hyzanc4 => exact fun w0 hSw => run_exec_load rfl rfl (HL.out w0 hSw)
          (try simp only [Act.put, List.setIfInBounds_toArray, List.set_cons_zero, List.set_cons_succ])
          refine' wpAnyH_take (i := 5) ?hizanc5 (by kernel_rfl) (by kernel_rfl) (by kernel_rfl) ?hqzanc5 (Or.inl ⟨?hwzanc5, ?hyzanc5⟩) (by assumption) ?hrzanc5
          case hizanc5 => (simp only [List.getElem?_toArray, List.getElem?_cons_succ, List.getElem?_cons_zero]; rfl)
          case hqzanc5 => exact fun _ _ _ h => h
          case hwzanc5 => rfl
          case hyzanc5 => (intro w0 hSw; (try dsimp only at hSw); go_simp; try with_reducible rfl)
          (try simp only [Act.put, List.setIfInBounds_toArray, List.set_cons_zero, List.set_cons_succ])
          refine' wpAnyH_take (i := 6) ?hizanc6 (by kernel_rfl) (by kernel_rfl) (by kernel_rfl) ?hqzanc6 (Or.inl ⟨?hwzanc6, ?hyzanc6⟩) (by assumption) ?hrzanc6
          case hizanc6 => (simp only [List.getElem?_toArray, List.getElem?_cons_succ, List.getElem?_cons_zero]; rfl)
          case hqzanc6 => exact fun _ _ _ h => h
          case hwzanc6 => rfl
          case hyzanc6 => (intro w0 hSw; (try dsimp only at hSw); go_simp; try with_reducible rfl)
          (try simp only [Act.put, List.setIfInBounds_toArray, List.set_cons_zero, List.set_cons_succ])
          refine' wpAnyH_take (i := 7) ?hizanc7 (by kernel_rfl) (by kernel_rfl) (by kernel_rfl) ?hqzanc7 (Or.inl ⟨?hwzanc7, ?hyzanc7⟩) (by assumption) ?hrzanc7
          case hizanc7 => (simp only [List.getElem?_toArray, List.getElem?_cons_succ, List.getElem?_cons_zero]; rfl)
          case hqzanc7 => exact fun _ _ _ h => h
          case hwzanc7 => rfl
          case hyzanc7 => exact fun w0 hSw => exec_hi rfl rfl rfl (HSL.out w0)
          (try simp only [Act.put, List.setIfInBounds_toArray, List.set_cons_zero, List.set_cons_succ])
          refine wpAnyH_ready (rs := [8]) (by kernel_rfl) (by simp) ?_
          refine' AllReadyH.cons ?hizanc8 (fun K hK => ?hrzanc8) AllReadyH.nil
          case hizanc8 => (simp only [List.getElem?_toArray, List.getElem?_cons_succ, List.getElem?_cons_zero]; rfl)
          go_simp
          (refine (HUC.out _ hHeld).mono ?_; rintro e w8 ⟨o, rfl, ho, hb8⟩; obtain ⟨oa, oc, rfl⟩ := ho.form; rw [← HUL.out]; have HB8 := Lib.hid hb8; clear hb8 ho)
          refine hK.out _ _ ?_ (fun hHeld => ?_)
          ·
           exact hHeld.next HI.out HB8.out
          clear hK K
          (try simp only [Act.put, List.setIfInBounds_toArray, List.set_cons_zero, List.set_cons_succ])
          refine' wpAnyH_take (i := 9) ?hizanc9 (by kernel_rfl) (by kernel_rfl) (by kernel_rfl) ?hqzanc9 (Or.inl ⟨?hwzanc9, ?hyzanc9⟩) (by assumption) ?hrzanc9
          case hizanc9 => (simp only [List.getElem?_toArray, List.getElem?_cons_succ, List.getElem?_cons_zero]; rfl)
          case hqzanc9 => exact fun _ _ _ h => h
          case hwzanc9 => rfl
          case hyzanc9 => (intro w0 hSw; (try dsimp only at hSw); go_simp; try with_reducible rfl)
          (try simp only [Act.put, List.setIfInBounds_toArray, List.set_cons_zero, List.set_cons_succ])
          refine' wpAnyH_take (i := 10) ?hizanc10 (by kernel_rfl) (by kernel_rfl) (by kernel_rfl) ?hqzanc10 (Or.inl ⟨?hwzanc10, ?hyzanc10⟩) (by assumption) ?hrzanc10
          case hizanc10 => (simp only [List.getElem?_toArray, List.getElem?_cons_succ, List.getElem?_cons_zero]; rfl)
          case hqzanc10 => exact fun _ _ _ h => h
          case hwzanc10 => rfl
          case hyzanc10 => (intro w0 hSw; (try dsimp only at hSw); go_simp; try with_reducible rfl)
          (try simp only [Act.put, List.setIfInBounds_toArray, List.set_cons_zero, List.set_cons_succ])
          refine' wpAnyH_take (i := 11) ?hizanc11 (by kernel_rfl) (by kernel_rfl) (by kernel_rfl) ?hqzanc11 (Or.inl ⟨?hwzanc11, ?hyzanc11⟩) (by assumption) ?hrzanc11
          case hizanc11 => (simp only [List.getElem?_toArray, List.getElem?_cons_succ, List.getElem?_cons_zero]; rfl)
          case hqzanc11 => exact fun _ _ _ h => h
          case hwzanc11 => rfl
          case hyzanc11 => (intro w0 hSw; (try dsimp only at hSw); go_simp; try with_reducible rfl)
          (try simp only [Act.put, List.setIfInBounds_toArray, List.set_cons_zero, List.set_cons_succ])
          refine' wpAnyH_take (i := 12) ?hizanc12 (by kernel_rfl) (by kernel_rfl) (by kernel_rfl) ?hqzanc12 (Or.inl ⟨?hwzanc12, ?hyzanc12⟩) (by assumption) ?hrzanc12
          case hizanc12 => (simp only [List.getElem?_toArray, List.getElem?_cons_succ, List.getElem?_cons_zero]; rfl)
          case hqzanc12 => exact fun _ _ _ h => h
          case hwzanc12 => rfl
          case hyzanc12 => (intro w0 hSw; (try dsimp only at hSw); go_simp; try with_reducible rfl)
          (try simp only [Act.put, List.setIfInBounds_toArray, List.set_cons_zero, List.set_cons_succ])
          refine' wpAnyH_take (i := 13) ?hizanc13 (by kernel_rfl) (by kernel_rfl) (by kernel_rfl) ?hqzanc13 (Or.inl ⟨?hwzanc13, ?hyzanc13⟩) (by assumption) ?hrzanc13
          case hizanc13 => (simp only [List.getElem?_toArray, List.getElem?_cons_succ, List.getElem?_cons_zero]; rfl)
          case hqzanc13 => exact fun _ _ _ h => h
          case hwzanc13 => rfl
          case hyzanc13 => (intro w0 hSw; (try dsimp only at hSw); go_simp; try with_reducible rfl)
          (try simp only [Act.put, List.setIfInBounds_toArray, List.set_cons_zero, List.set_cons_succ])
          refine' wpAnyH_take (i := 14) (v := undef) ?hizanc14 (by kernel_rfl) (by kernel_rfl) (by kernel_rfl) ?hqzanc14 (Or.inr ⟨?hwzanc14, rfl⟩) (by assumption) ?hrzanc14
          case hizanc14 => (simp only [List.getElem?_toArray, List.getElem?_cons_succ, List.getElem?_cons_zero]; rfl)
          case hqzanc14 => exact fun _ _ _ h => h
          case hwzanc14 => rfl
          (try simp only [Act.put, List.setIfInBounds_toArray, List.set_cons_zero, List.set_cons_succ])
          refine' wpAnyH_take (i := 15) (v := undef) ?hizanc15 (by kernel_rfl) (by kernel_rfl) (by kernel_rfl) ?hqzanc15 (Or.inr ⟨?hwzanc15, rfl⟩) (by assumption) ?hrzanc15
          case hizanc15 => (simp only [List.getElem?_toArray, List.getElem?_cons_succ, List.getElem?_cons_zero]; rfl)
          case hqzanc15 => exact fun _ _ _ h => h
          case hwzanc15 => rfl
          (try simp only [Act.put, List.setIfInBounds_toArray, List.set_cons_zero, List.set_cons_succ])
          refine' wpAnyH_take (i := 16) (v := undef) ?hizanc16 (by kernel_rfl) (by kernel_rfl) (by kernel_rfl) ?hqzanc16 (Or.inr ⟨?hwzanc16, rfl⟩) (by assumption) ?hrzanc16
          case hizanc16 => (simp only [List.getElem?_toArray, List.getElem?_cons_succ, List.getElem?_cons_zero]; rfl)
          case hqzanc16 => exact fun _ _ _ h => h
          case hwzanc16 => rfl
          (try simp only [Act.put, List.setIfInBounds_toArray, List.set_cons_zero, List.set_cons_succ])
          refine' wpAnyH_take (i := 17) (v := undef) ?hizanc17 (by kernel_rfl) (by kernel_rfl) (by kernel_rfl) ?hqzanc17 (Or.inr ⟨?hwzanc17, rfl⟩) (by assumption) ?hrzanc17
          case hizanc17 => (simp only [List.getElem?_toArray, List.getElem?_cons_succ, List.getElem?_cons_zero]; rfl)
          case hqzanc17 => exact fun _ _ _ h => h
          case hwzanc17 => rfl
          (try simp only [Act.put, List.setIfInBounds_toArray, List.set_cons_zero, List.set_cons_succ])
          refine' wpAnyH_take (i := 18) (v := undef) ?hizanc18 (by kernel_rfl) (by kernel_rfl) (by kernel_rfl) ?hqzanc18 (Or.inr ⟨?hwzanc18, rfl⟩) (by assumption) ?hrzanc18
          case hizanc18 => (simp only [List.getElem?_toArray, List.getElem?_cons_succ, List.getElem?_cons_zero]; rfl)
          case hqzanc18 => exact fun _ _ _ h => h
          case hwzanc18 => rfl
          (try simp only [Act.put, List.setIfInBounds_toArray, List.set_cons_zero, List.set_cons_succ])
          refine' wpAnyH_take (i := 19) (v := undef) ?hizanc19 (by kernel_rfl) (by kernel_rfl) (by kernel_rfl) ?hqzanc19 (Or.inr ⟨?hwzanc19, rfl⟩) (by assumption) ?hrzanc19
          case hizanc19 => (simp only [List.getElem?_toArray, List.getElem?_cons_succ, List.getElem?_cons_zero]; rfl)
          case hqzanc19 => exact fun _ _ _ h => h
          case hwzanc19 => rfl
          (try simp only [Act.put, List.setIfInBounds_toArray, List.set_cons_zero, List.set_cons_succ])
          refine' wpAnyH_take (i := 20) ?hizanc20 (by kernel_rfl) (by kernel_rfl) (by kernel_rfl) ?hqzanc20 (Or.inl ⟨?hwzanc20, ?hyzanc20⟩) (by assumption) ?hrzanc20
          case hizanc20 => (simp only [List.getElem?_toArray, List.getElem?_cons_succ, List.getElem?_cons_zero]; rfl)
          case hqzanc20 => exact fun _ _ _ h => h
          case hwzanc20 => rfl
          case hyzanc20 => (intro w0 hSw; (try dsimp only at hSw); go_simp; try with_reducible rfl)
          (try simp only [Act.put, List.setIfInBounds_toArray, List.set_cons_zero, List.set_cons_succ])
          refine' wpAnyH_take (i := 21) ?hizanc21 (by kernel_rfl) (by kernel_rfl) (by kernel_rfl) ?hqzanc21 (Or.inl ⟨?hwzanc21, ?hyzanc21⟩) (by assumption) ?hrzanc21
          case hizanc21 => (simp only [List.getElem?_toArray, List.getElem?_cons_succ, List.getElem?_cons_zero]; rfl)
          case hqzanc21 => exact fun _ _ _ h => h
          case hwzanc21 => rfl
          case hyzanc21 => (intro w0 hSw; (try dsimp only at hSw); go_simp; try with_reducible rfl)
          (try simp only [Act.put, List.setIfInBounds_toArray, List.set_cons_zero, List.set_cons_succ])
          refine wpAnyH_done (by kernel_rfl) ?_ _
          clear hHeld
          go_wp2_with fail
          go_roundw
          case rel => exact ⟨true, k + 1, hkt, rfl, by push_cast; rfl, fun _ => HTW.out, (HB7.out.trans (((Below.refl _ w6).drew).mono HB7.out.size)).trans (HB8.out.mono (Nat.le_trans HB7.out.size (Nat.le_refl _)))⟩
          case measure => simp [intOf]; omega
        ·
         obtain rfl : vk = 11 := HA.out hu
         have hul : (0 : Int) < ((uk.length : Nat) : Int) := by have := List.length_pos_iff.2 hu; omega
         obtain ⟨ul, hule⟩ : ∃ n, n = uk.length := ⟨_, rfl⟩
         rw [← hule] at hul
         have hne : ((ul : Int) == 0) = false := beq_eq_false_iff_ne.2 (by omega)
         have HUL := Lib.hid hule
         clear hule hu
         refine wp_region_held_drew (S := MdS T w (.slice ka i kc) P i g G uG) (by kernel_rfl) ?_ (fun hHeld => ?_)
         ·
          exact HM7.out.next HI.out ((Below.refl _ _).drew)
         refine' wpAnyH_take (i := 0) ?hizana0 (by kernel_rfl) (by kernel_rfl) (by kernel_rfl) ?hqzana0 (Or.inl ⟨?hwzana0, ?hyzana0⟩) (by assumption) ?hrzana0
         case hizana0 => (simp only [List.getElem?_toArray, List.getElem?_cons_zero]; rfl)
         case hqzana0 => exact fun _ _ _ h => h
         case hwzana0 => rfl
         case hyzana0 => (intro w0 hSw; (try dsimp only at hSw); go_simp; try with_reducible rfl)
         (try simp only [Act.put, List.setIfInBounds_toArray, List.set_cons_zero, List.set_cons_succ])
         refine' wpAnyH_take (i := 1) ?hizana1 (by kernel_rfl) (by kernel_rfl) (by kernel_rfl) ?hqzana1 (Or.inl ⟨?hwzana1, ?hyzana1⟩) (by assumption) ?hrzana1
         case hizana1 => (simp only [List.getElem?_toArray, List.getElem?_cons_succ, List.getElem?_cons_zero]; rfl)
         case hqzana1 => exact fun _ _ _ h => h
         case hwzana1 => rfl
         case hyzana1 => (intro w0 hSw; (try dsimp only at hSw); go_simp; try with_reducible rfl)
         (try simp only [Act.put, List.setIfInBounds_toArray, List.set_cons_zero, List.set_cons_succ])
         refine' wpAnyH_take (i := 2) ?hizana2 (by kernel_rfl) (by kernel_rfl) (by kernel_rfl) ?hqzana2 (Or.inl ⟨?hwzana2, ?hyzana2⟩) (by assumption) ?hrzana2
         case hizana2 => (simp only [List.getElem?_toArray, List.getElem?_cons_succ, List.getElem?_cons_zero]; rfl)
         case hqzana2 => exact fun _ _ _ h => h
         case hwzana2 => rfl
         case hyzana2 => (intro w0 hSw; (try dsimp only at hSw); go_simp; try with_reducible rfl)
         (try simp only [Act.put, List.setIfInBounds_toArray, List.set_cons_zero, List.set_cons_succ])
         refine' wpAnyH_take (i := 3) ?hizana3 (by kernel_rfl) (by kernel_rfl) (by kernel_rfl) ?hqzana3 (Or.inl ⟨?hwzana3, ?hyzana3⟩) (by assumption) ?hrzana3
         case hizana3 => (simp only [List.getElem?_toArray, List.getElem?_cons_succ, List.getElem?_cons_zero]; rfl)
         case hqzana3 => exact fun _ _ _ h => h
         case hwzana3 => rfl
         case hyzana3 => (intro w0 hSw; (try dsimp only at hSw); go_simp; try with_reducible rfl)
         (try simp only [Act.put, List.setIfInBounds_toArray, List.set_cons_zero, List.set_cons_succ])
         refine' wpAnyH_take (i := 4) ?hizana4 (by kernel_rfl) (by kernel_rfl) (by kernel_rfl) ?hqzana4 (Or.inl ⟨?hwzana4, ?hyzana4⟩) (by assumption) ?hrzana4
         case hizana4 => (simp only [List.getElem?_toArray, List.getElem?_cons_succ, List.getElem?_cons_zero]; rfl)
         case hqzana4 => exact fun _ _ _ h => h
         case hwzana4 => rfl
         case hyzana4 => exact fun w0 hSw => run_exec_load rfl rfl (HL.out w0 hSw)
         (try simp only [Act.put, List.setIfInBounds_toArray, List.set_cons_zero, List.set_cons_succ])
         refine' wpAnyH_take (i := 5) ?hizana5 (by kernel_rfl) (by kernel_rfl) (by kernel_rfl) ?hqzana5 (Or.inl ⟨?hwzana5, ?hyzana5⟩) (by assumption) ?hrzana5
         case hizana5 => (simp only [List.getElem?_toArray, List.getElem?_cons_succ, List.getElem?_cons_zero]; rfl)
         case hqzana5 => exact fun _ _ _ h => h
         case hwzana5 => rfl
         case hyzana5 => (intro w0 hSw; (try dsimp only at hSw); go_simp; try with_reducible rfl)
         (try simp only [Act.put, List.setIfInBounds_toArray, List.set_cons_zero, List.set_cons_succ])
         refine' wpAnyH_take (i := 6) ?hizana6 (by kernel_rfl) (by kernel_rfl) (by kernel_rfl) ?hqzana6 (Or.inl ⟨?hwzana6, ?hyzana6⟩) (by assumption) ?hrzana6
         case hizana6 => (simp only [List.getElem?_toArray, List.getElem?_cons_succ, List.getElem?_cons_zero]; rfl)
         case hqzana6 => exact fun _ _ _ h => h
         case hwzana6 => rfl
         case hyzana6 => (intro w0 hSw; (try dsimp only at hSw); go_simp; try with_reducible rfl)
         (try simp only [Act.put, List.setIfInBounds_toArray, List.set_cons_zero, List.set_cons_succ])
         refine' wpAnyH_take (i := 7) ?hizana7 (by kernel_rfl) (by kernel_rfl) (by kernel_rfl) ?hqzana7 (Or.inl ⟨?hwzana7, ?hyzana7⟩) (by assumption) ?hrzana7
         case hizana7 => (simp only [List.getElem?_toArray, List.getElem?_cons_succ, List.getElem?_cons_zero]; rfl)
         case hqzana7 => exact fun _ _ _ h => h
         case hwzana7 => rfl
         case hyzana7 => exact fun w0 hSw => exec_hi rfl rfl rfl (HSL.out w0)
         (try simp only [Act.put, List.setIfInBounds_toArray, List.set_cons_zero, List.set_cons_succ])
         refine wpAnyH_ready (rs := [8]) (by kernel_rfl) (by simp) ?_
         refine' AllReadyH.cons ?hizana8 (fun K hK => ?hrzana8) AllReadyH.nil
         case hizana8 => (simp only [List.getElem?_toArray, List.getElem?_cons_succ, List.getElem?_cons_zero]; rfl)
         go_simp
         (refine (HUC.out _ hHeld).mono ?_; rintro e w8 ⟨o, rfl, ho, hb8⟩; obtain ⟨oa, oc, rfl⟩ := ho.form; rw [← HUL.out]; have HB8 := Lib.hid hb8; clear hb8 ho)
         refine hK.out _ _ ?_ (fun hHeld => ?_)
         ·
          exact hHeld.next HI.out HB8.out
         clear hK K
         (try simp only [Act.put, List.setIfInBounds_toArray, List.set_cons_zero, List.set_cons_succ])
         refine' wpAnyH_take (i := 9) ?hizana9 (by kernel_rfl) (by kernel_rfl) (by kernel_rfl) ?hqzana9 (Or.inl ⟨?hwzana9, ?hyzana9⟩) (by assumption) ?hrzana9
         case hizana9 => (simp only [List.getElem?_toArray, List.getElem?_cons_succ, List.getElem?_cons_zero]; rfl)
         case hqzana9 => exact fun _ _ _ h => h
         case hwzana9 => rfl
         case hyzana9 => (intro w0 hSw; (try dsimp only at hSw); go_simp; try with_reducible rfl)
         (try simp only [Act.put, List.setIfInBounds_toArray, List.set_cons_zero, List.set_cons_succ])
         refine' wpAnyH_take (i := 10) ?hizana10 (by kernel_rfl) (by kernel_rfl) (by kernel_rfl) ?hqzana10 (Or.inl ⟨?hwzana10, ?hyzana10⟩) (by assumption) ?hrzana10
         case hizana10 => (simp only [List.getElem?_toArray, List.getElem?_cons_succ, List.getElem?_cons_zero]; rfl)
         case hqzana10 => exact fun _ _ _ h => h
         case hwzana10 => rfl
         case hyzana10 => (intro w0 hSw; (try dsimp only at hSw); go_simp; try with_reducible rfl)
         (try simp only [Act.put, List.setIfInBounds_toArray, List.set_cons_zero, List.set_cons_succ])
         refine' wpAnyH_take (i := 11) ?hizana11 (by kernel_rfl) (by kernel_rfl) (by kernel_rfl) ?hqzana11 (Or.inl ⟨?hwzana11, ?hyzana11⟩) (by assumption) ?hrzana11
         case hizana11 => (simp only [List.getElem?_toArray, List.getElem?_cons_succ, List.getElem?_cons_zero]; rfl)
         case hqzana11 => exact fun _ _ _ h => h
         case hwzana11 => rfl
         case hyzana11 => (intro w0 hSw; (try dsimp only at hSw); go_simp; try with_reducible rfl)
         (try simp only [Act.put, List.setIfInBounds_toArray, List.set_cons_zero, List.set_cons_succ])
         refine' wpAnyH_take (i := 12) ?hizana12 (by kernel_rfl) (by kernel_rfl) (by kernel_rfl) ?hqzana12 (Or.inl ⟨?hwzana12, ?hyzana12⟩) (by assumption) ?hrzana12
         case hizana12 => (simp only [List.getElem?_toArray, List.getElem?_cons_succ, List.getElem?_cons_zero]; rfl)
         case hqzana12 => exact fun _ _ _ h => h
         case hwzana12 => rfl
         case hyzana12 => (intro w0 hSw; (try dsimp only at hSw); go_simp; try with_reducible rfl)
         (try simp only [Act.put, List.setIfInBounds_toArray, List.set_cons_zero, List.set_cons_succ])
         refine' wpAnyH_take (i := 13) ?hizana13 (by kernel_rfl) (by kernel_rfl) (by kernel_rfl) ?hqzana13 (Or.inl ⟨?hwzana13, ?hyzana13⟩) (by assumption) ?hrzana13
         case hizana13 => (simp only [List.getElem?_toArray, List.getElem?_cons_succ, List.getElem?_cons_zero]; rfl)
         case hqzana13 => exact fun _ _ _ h => h
         case hwzana13 => rfl
         case hyzana13 => (intro w0 hSw; (try dsimp only at hSw); go_simp; try with_reducible rfl)
         (try simp only [Act.put, List.setIfInBounds_toArray, List.set_cons_zero, List.set_cons_succ])
         refine' wpAnyH_take (i := 14) ?hizana14 (by kernel_rfl) (by kernel_rfl) (by kernel_rfl) ?hqzana14 (Or.inl ⟨?hwzana14, ?hyzana14⟩) (by assumption) ?hrzana14
         case hizana14 => (simp only [List.getElem?_toArray, List.getElem?_cons_succ, List.getElem?_cons_zero]; rfl)
         case hqzana14 => exact fun _ _ _ h => h
         case hwzana14 => rfl
         case hyzana14 => (intro w0 hSw; (try dsimp only at hSw); go_simp; try with_reducible rfl)
         (try simp only [Act.put, List.setIfInBounds_toArray, List.set_cons_zero, List.set_cons_succ])
         refine' wpAnyH_take (i := 15) ?hizana15 (by kernel_rfl) (by kernel_rfl) (by kernel_rfl) ?hqzana15 (Or.inl ⟨?hwzana15, ?hyzana15⟩) (by assumption) ?hrzana15
         case hizana15 => (simp only [List.getElem?_toArray, List.getElem?_cons_succ, List.getElem?_cons_zero]; rfl)
         case hqzana15 => exact fun _ _ _ h => h
         case hwzana15 => rfl
         case hyzana15 => (intro w0 hSw; (try dsimp only at hSw); go_simp; try with_reducible rfl)
         (try simp only [Act.put, List.setIfInBounds_toArray, List.set_cons_zero, List.set_cons_succ])
         refine' wpAnyH_take (i := 16) ?hizana16 (by kernel_rfl) (by kernel_rfl) (by kernel_rfl) ?hqzana16 (Or.inl ⟨?hwzana16, ?hyzana16⟩) (by assumption) ?hrzana16
         case hizana16 => (simp only [List.getElem?_toArray, List.getElem?_cons_succ, List.getElem?_cons_zero]; rfl)
         case hqzana16 => exact fun _ _ _ h => h
         case hwzana16 => rfl
         case hyzana16 => (intro w0 hSw; (try dsimp only at hSw); go_simp; try with_reducible rfl)
         (try simp only [Act.put, List.setIfInBounds_toArray, List.set_cons_zero, List.set_cons_succ])
         refine' wpAnyH_take (i := 17) ?hizana17 (by kernel_rfl) (by kernel_rfl) (by kernel_rfl) ?hqzana17 (Or.inl ⟨?hwzana17, ?hyzana17⟩) (by assumption) ?hrzana17
         case hizana17 => (simp only [List.getElem?_toArray, List.getElem?_cons_succ, List.getElem?_cons_zero]; rfl)
         case hqzana17 => exact fun _ _ _ h => h
         case hwzana17 => rfl
         case hyzana17 => (intro w0 hSw; (try dsimp only at hSw); go_simp; try with_reducible rfl)
         (try simp only [Act.put, List.setIfInBounds_toArray, List.set_cons_zero, List.set_cons_succ])
         refine' wpAnyH_take (i := 18) ?hizana18 (by kernel_rfl) (by kernel_rfl) (by kernel_rfl) ?hqzana18 (Or.inl ⟨?hwzana18, ?hyzana18⟩) (by assumption) ?hrzana18
         case hizana18 => (simp only [List.getElem?_toArray, List.getElem?_cons_succ, List.getElem?_cons_zero]; rfl)
         case hqzana18 => exact fun _ _ _ h => h
         case hwzana18 => rfl
         case hyzana18 => (intro w0 hSw; (try dsimp only at hSw); go_simp; try with_reducible rfl)
         (try simp only [Act.put, List.setIfInBounds_toArray, List.set_cons_zero, List.set_cons_succ])
         refine' wpAnyH_take (i := 19) ?hizana19 (by kernel_rfl) (by kernel_rfl) (by kernel_rfl) ?hqzana19 (Or.inl ⟨?hwzana19, ?hyzana19⟩) (by assumption) ?hrzana19
         case hizana19 => (simp only [List.getElem?_toArray, List.getElem?_cons_succ, List.getElem?_cons_zero]; rfl)
         case hqzana19 => exact fun _ _ _ h => h
         case hwzana19 => rfl
         case hyzana19 => (intro w0 hSw; (try dsimp only at hSw); go_simp; try with_reducible rfl)
         (try simp only [Act.put, List.setIfInBounds_toArray, List.set_cons_zero, List.set_cons_succ])
         refine' wpAnyH_take (i := 20) ?hizana20 (by kernel_rfl) (by kernel_rfl) (by kernel_rfl) ?hqzana20 (Or.inl ⟨?hwzana20, ?hyzana20⟩) (by assumption) ?hrzana20
         case hizana20 => (simp only [List.getElem?_toArray, List.getElem?_cons_succ, List.getElem?_cons_zero]; rfl)
         case hqzana20 => exact fun _ _ _ h => h
         case hwzana20 => rfl
         case hyzana20 => (intro w0 hSw; (try dsimp only at hSw); go_simp; try with_reducible rfl)
         (try simp only [Act.put, List.setIfInBounds_toArray, List.set_cons_zero, List.set_cons_succ])
         refine' wpAnyH_take (i := 21) ?hizana21 (by kernel_rfl) (by kernel_rfl) (by kernel_rfl) ?hqzana21 (Or.inl ⟨?hwzana21, ?hyzana21⟩) (by assumption) ?hrzana21
         case hizana21 => (simp only [List.getElem?_toArray, List.getElem?_cons_succ, List.getElem?_cons_zero]; rfl)
         case hqzana21 => exact fun _ _ _ h => h
         case hwzana21 => rfl
         case hyzana21 => (intro w0 hSw; (try dsimp only at hSw); go_simp; try with_reducible rfl)
         (try simp only [Act.put, List.setIfInBounds_toArray, List.set_cons_zero, List.set_cons_succ])
         refine wpAnyH_done (by kernel_rfl) ?_ _
         clear hHeld
         go_wp2_with fail
         go_roundw
         case rel => exact ⟨false, k + 1, hkt, rfl, by push_cast; rfl, fun h => (by cases h), (HB7.out.trans (((Below.refl _ w6).drew).mono HB7.out.size)).trans (HB8.out.mono (Nat.le_trans HB7.out.size (Nat.le_refl _)))⟩
         case measure => simp [intOf]; omega
      ·
       obtain rfl : k = i := by omega
       have hsepk := HC.out.own.1
       obtain ⟨kv2, w9, hrun, ho9, ht9, -⟩ := push_hd hm.c.own G uG HCOM.out hm.p (fun hne b off n c e hkk => absurd (HNW.out hne b off n c e) (by have := hsepk.lt hkk; have := HS.out; have := HSR.out; omega)) (by have := hm.c.len; omega) (fun b hb => (show w.heap.size ≤ b by have := hm.c.below.size; omega)) 27
       have hlg := run_load_hd hm.b HCOM.out
       have hbl9 : Below w.heap.size w w9 := hm.c.below.trans (ht9.below fun b hb => by
        rcases hb with hb | hb
        ·
         exact hm.c.own.1.2.2 b hb
        ·
         have := hm.c.below.size; omega)
       have hgood : ∀ p ∈ P ++ [(G, uG)], checkH p.1 = 0 ∧ p.1.height ≤ ((k + 1 : Nat) : Int) ∧ p.1.topic = [99, 97] := fun p hp => (List.mem_append.1 hp).elim (fun h => by
        have := hm.c.good p h
        exact ⟨this.1, by have := this.2.1; push_cast; omega, this.2.2⟩) (fun h => by rw [List.mem_singleton.1 h]; exact ⟨HG0.out, HGH.out, HGT.out⟩)
       have hlen : (P ++ [(G, uG)]).length = k + 1 := by rw [List.length_append, List.length_singleton, hm.c.len]
       have ht9' : T w9 := HI.out.next HT0.out hbl9
       have HC9 : Hid (ChS T w kv2 (P ++ [(G, uG)]) (k + 1) w9) := Lib.hid ⟨ht9', ho9, hgood, hlen, hbl9⟩
       clear hft hb hm hsepk ho9 ht9 hbl9 hgood hlen ht9'
       cases fl with
       | true =>
        have HTW : Hid (Twin (hs (P ++ [(G, uG)]))) := Lib.hid ((HFT.out rfl).mono fun a ha => by unfold hs at ha ⊢; rw [List.map_append]; exact List.mem_append_left _ ha)
        go_wp2_with (first
         | ((with_reducible refine step_load (t := 26) (x := .tmp 10) (p := ?lpzanx1) (v := ?lvzanx1) ?lgzanx1 ?lozanx1 ?lxzanx1 ?lrzanx1 ?lhzanx1); (case lgzanx1 => rfl); (case lozanx1 => rfl); (case lxzanx1 => rfl); (case lrzanx1 => exact hlg))
         | ((with_reducible refine hds.step_build1h (x := .tmp 109) (h := ?bhzanx2) (v := ?bvzanx2) ?bgzanx2 ?bozanx2 ?bxzanx2 ?blzanx2 ?bkzanx2); (case bgzanx2 => rfl); (case bozanx2 => rfl); (case bxzanx2 => rfl); (case blzanx2 => exact HCOM.out))
         | ((with_reducible refine step_append (s := .tmp 108) (x := .tmp 110) (t := 27) (vs := ?aszanx3) (vx := ?axzanx3) (v' := ?avzanx3) (w' := ?awzanx3) ?agzanx3 ?aozanx3 ?apzanx3 ?aqzanx3 ?arzanx3 ?ahzanx3); (case agzanx3 => rfl); (case aozanx3 => rfl); (case apzanx3 => rfl); (case aqzanx3 => rfl); (case arzanx3 => exact hrun)))
        refine bodyPost_ret (results_tmp2 rfl _ _ _) rfl ?_
        exact ⟨_, P ++ [(G, uG)], false, rfl, HC9.out.hsv (by omega), HC9.out.few, by have := HC9.out.len; omega, fun _ => HTW.out, HC9.out.below⟩
       | false =>
        go_wp2_with (first
         | ((with_reducible refine step_load (t := 26) (x := .tmp 10) (p := ?lpzany1) (v := ?lvzany1) ?lgzany1 ?lozany1 ?lxzany1 ?lrzany1 ?lhzany1); (case lgzany1 => rfl); (case lozany1 => rfl); (case lxzany1 => rfl); (case lrzany1 => exact hlg))
         | ((with_reducible refine hds.step_build1h (x := .tmp 109) (h := ?bhzany2) (v := ?bvzany2) ?bgzany2 ?bozany2 ?bxzany2 ?blzany2 ?bkzany2); (case bgzany2 => rfl); (case bozany2 => rfl); (case bxzany2 => rfl); (case blzany2 => exact HCOM.out))
         | ((with_reducible refine step_append (s := .tmp 108) (x := .tmp 110) (t := 27) (vs := ?aszany3) (vx := ?axzany3) (v' := ?avzany3) (w' := ?awzany3) ?agzany3 ?aozany3 ?apzany3 ?aqzany3 ?arzany3 ?ahzany3); (case agzany3 => rfl); (case aozany3 => rfl); (case apzany3 => rfl); (case aqzany3 => rfl); (case arzany3 => exact hrun)))
        go_roundw
        case rel => exact ⟨P ++ [(G, uG)], k + 1, hlt.1, hlt.2, by push_cast; rfl, HC9.out⟩
        case measure => simp [intOf]; omega
   ·
    have kI : (i : Int) ≤ (k : Int) := by omega
    clear hjt hjt2
    go_upto_region 12 with (first
     | (go_at_call 15; (with_reducible refine HMD.out.mono ?_); rintro e w3 ⟨uG, rfl, hp3, hb3, hnw⟩; have hh := run_hold w3 G uG HCOM.out (rdv_one hp3); have hk := held_blk w3 G uG; have hbb := held_below w3 G uG; obtain ⟨w4, hw4⟩ : ∃ x, x = heldW w3 G uG := ⟨_, rfl⟩; rw [← hw4] at hh hk hbb; have hb34 := hb3.trans (hbb.mono hb3.size); have HM4 : Hid (MdS T w _ P i w3.heap.size G uG w4) := Lib.hid ⟨HC1.out.next HI.out hb34, hk, hp3.next hbb⟩; have hlg := run_load_hd hk HCOM.out; have HH := Lib.hid hh; have HNW := Lib.hid hnw; clear hp3 hb3 hnw hh hk hbb hw4 hb34 HMD)
     | ((with_reducible refine step_store_run (t := 26) (x := .tmp 10) (y := .tmp 59) (p := ?spzbs) (v := ?svzbs) (w' := ?swzbs) ?sgzbs ?sozbs ?sxzbs ?syzbs ?srzbs ?shzbs); (case sgzbs => rfl); (case sozbs => rfl); (case sxzbs => rfl); (case syzbs => rfl); (case srzbs => exact HH.out)))
    clear HH
    obtain ⟨g, hg⟩ : ∃ x, x = w3.heap.size := ⟨_, rfl⟩
    rw [← hg] at HM4 hlg ⊢
    clear hg
    have hv4 := HI.out.verdict G uG _ P w4 HM4.out.c.t HCOM.out HM4.out.p HG4.out HGT2.out (HM4.out.c.hsv hi10) HM4.out.c.few (by have := HM4.out.c.len; omega)
    rw [← HVK.out] at hv4
    have HV4 := Lib.hid hv4
    clear hv4
    by_cases hvz : vK = 0
    ·
     subst hvz
     obtain ⟨ul, hul⟩ : ∃ n, n = (unknownR G (hs P)).length := ⟨_, rfl⟩
     have hu0 : (ul : Int) = 0 := by rw [hul, HUN.out]; rfl
     have HUL := Lib.hid hul
     clear hul
     go_upto_region 13 with (first
      | ((with_reducible refine step_load_w (t := 26) (x := .tmp 10) (p := ?lpzbg) (v := ?lvzbg) ?lgzbg ?lozbg ?lxzbg ?lrzbg ?lhzbg); (case lozbg => rfl); (case lgzbg => rfl); (case lxzbg => rfl); (case lrzbg => exact hlg))
      | (go_at_call 8; (with_reducible refine HV4.out.mono ?_); rintro e w5 ⟨rfl, hb5⟩; have HM5 := Lib.hid (HM4.out.next HI.out hb5); clear hb5 HV4; have hlg5 := run_load_hd HM5.out.b HCOM.out; have hun := HI.out.unknown G uG _ P w5 HM5.out.c.t HCOM.out HM5.out.p HG4.out (HM5.out.c.hsv hi10) HM5.out.c.few (by have := HM5.out.c.len; omega); have HUC := Lib.hid hun; clear hun)
      | ((with_reducible refine step_load_w (t := 26) (x := .tmp 10) (p := ?lpzbh) (v := ?lvzbh) ?lgzbh ?lozbh ?lxzbh ?lrzbh ?lhzbh); (case lozbh => rfl); (case lgzbh => rfl); (case lxzbh => rfl); (case lrzbh => exact hlg5))
      | (go_at_call 11; (with_reducible refine HUC.out.mono ?_); rintro e w6 ⟨o, rfl, ho, hb6⟩; obtain ⟨oa, oc, rfl⟩ := ho.form; rw [← HUL.out]; have HM5 := Lib.hid (HM5.out.next HI.out hb6); clear hb6 ho HUC hlg5))
     clear hlg HM4
     clear HVT
     obtain ⟨w5, hw5⟩ : ∃ u, u = w6 := ⟨_, rfl⟩
     rw [← hw5] at HM5 ⊢
     have HM6 := HM5
     clear hw5
     go_wp2_with fail
     go_loopw [12, 13, 14] (fun bv jv _ wr => ∃ (fl : Bool) (k : Nat), k ≤ i ∧ bv = .bool fl ∧ jv = .int .i64 (k : Int) ∧ (fl = true → Twin (hs P)) ∧ Below w5.heap.size w5 wr) (fun _ jv _ _ => i - (intOf jv).toNat)
     case atStart => exact ⟨false, 0, Nat.zero_le _, rfl, rfl, fun h => (by cases h), Below.refl _ _⟩
     case round =>
      clear HM6
      obtain ⟨fl, k, hki, rfl, rfl, hft, hb⟩ := hrel
      have k0 : (0 : Int) ≤ (k : Int) := Int.natCast_nonneg _
      have HFT := Lib.hid hft
      have HB := Lib.hid hb
      have hm := HM5.out.next HI.out hb
      by_cases hkt : k < i
      ·
       have kI : (k : Int) < (i : Int) := by omega
       have HM := Lib.hid hm
       have hks := slice_hi_h (hm.c.hsv hi10) k (Nat.le_of_lt hkt) wr
       have HSL : Hid (∀ u : World, _) := Lib.hid (fun u => (slice_hi_h (hm.c.hsv hi10) k (Nat.le_of_lt hkt) u).1)
       have HV : Hid (∀ u, MdS T w (.slice ka i kc) P i g G uG u → HsV u (.slice ka k kc) (P.take k)) := Lib.hid fun u h => (slice_hi_h (h.c.hsv hi10) k (Nat.le_of_lt hkt) u).2
       have htl : (P.take k).length ≤ 1000 := by rw [List.length_take, hm.c.len]; omega
       obtain ⟨vk, hvk⟩ : ∃ x, x = verdictL G (hs (P.take k)) := ⟨_, rfl⟩
       obtain ⟨uk, huk⟩ : ∃ x, x = unknownR G (hs (P.take k)) := ⟨_, rfl⟩
       have HVC := Lib.hid (fun u (h : MdS T w (.slice ka i kc) P i g G uG u) => HI.out.verdict G uG (.slice ka k kc) (P.take k) u h.c.t HCOM.out h.p HG4.out HGT2.out (HV.out u h) (h.c.few.take k) htl)
       have HUC := Lib.hid (fun u (h : MdS T w (.slice ka i kc) P i g G uG u) => HI.out.unknown G uG (.slice ka k kc) (P.take k) u h.c.t HCOM.out h.p HG4.out (HV.out u h) (h.c.few.take k) htl)
       rw [← hvk] at HVC
       rw [← huk] at HUC
       have HL := Lib.hid (fun u (h : MdS T w (.slice ka i kc) P i g G uG u) => run_load_hd h.b HCOM.out)
       have HA : Hid (uk ≠ [] → vk = 11) := Lib.hid fun h => by rw [hvk]; exact verdict_no HG0.out (by rw [← huk]; exact h)
       have HC : Hid (uk = [] → vk ≠ 0 → Twin (hs P)) := Lib.hid fun h hne => by
        by_cases ht : Twin (hs P)
        ·
         exact ht
        ·
         have := HVM.out (hs (P.take k)) (take_hs P k) ht
         rw [← hvk, ← huk, if_pos h] at this
         exact absurd this hne
       clear hft hb hm hks htl hvk huk
       go_upto_region 16 with fail
       refine wp_region_held_drew (S := MdS T w (.slice ka i kc) P i g G uG) (by kernel_rfl) ?_ (fun hHeld => ?_)
       ·
        exact HM.out.next HI.out ((Below.refl _ _).drew)
       refine' wpAnyH_take (i := 0) ?hizbmr0 (by kernel_rfl) (by kernel_rfl) (by kernel_rfl) ?hqzbmr0 (Or.inl ⟨?hwzbmr0, ?hyzbmr0⟩) (by assumption) ?hrzbmr0
       case hizbmr0 => (simp only [List.getElem?_toArray, List.getElem?_cons_zero]; rfl)
       case hqzbmr0 => exact fun _ _ _ h => h
       case hwzbmr0 => rfl
       case hyzbmr0 => exact fun w0 hSw => run_exec_load rfl rfl (HL.out w0 hSw)
       (try simp only [Act.put, List.setIfInBounds_toArray, List.set_cons_zero, List.set_cons_succ])
       refine' wpAnyH_take (i := 1) ?hizbmr1 (by kernel_rfl) (by kernel_rfl) (by kernel_rfl) ?hqzbmr1 (Or.inl ⟨?hwzbmr1, ?hyzbmr1⟩) (by assumption) ?hrzbmr1
       case hizbmr1 => (simp only [List.getElem?_toArray, List.getElem?_cons_succ, List.getElem?_cons_zero]; rfl)
       case hqzbmr1 => exact fun _ _ _ h => h
       case hwzbmr1 => rfl
       case hyzbmr1 => (intro w0 hSw; (try dsimp only at hSw); go_simp; try with_reducible rfl)
       (try simp only [Act.put, List.setIfInBounds_toArray, List.set_cons_zero, List.set_cons_succ])
       refine' wpAnyH_take (i := 2) ?hizbmr2 (by kernel_rfl) (by kernel_rfl) (by kernel_rfl) ?hqzbmr2 (Or.inl ⟨?hwzbmr2, ?hyzbmr2⟩) (by assumption) ?hrzbmr2
       case hizbmr2 => (simp only [List.getElem?_toArray, List.getElem?_cons_succ, List.getElem?_cons_zero]; rfl)
       case hqzbmr2 => exact fun _ _ _ h => h
       case hwzbmr2 => rfl
       case hyzbmr2 => (intro w0 hSw; (try dsimp only at hSw); go_simp; try with_reducible rfl)
       (try simp only [Act.put, List.setIfInBounds_toArray, List.set_cons_zero, List.set_cons_succ])
       refine' wpAnyH_take (i := 3) ?hizbmr3 (by kernel_rfl) (by kernel_rfl) (by kernel_rfl) ?hqzbmr3 (Or.inl ⟨?hwzbmr3, ?hyzbmr3⟩) (by assumption) ?hrzbmr3
       case hizbmr3 => (simp only [List.getElem?_toArray, List.getElem?_cons_succ, List.getElem?_cons_zero]; rfl)
       case hqzbmr3 => exact fun _ _ _ h => h
       case hwzbmr3 => rfl
       case hyzbmr3 => exact fun w0 hSw => exec_hi rfl rfl rfl (HSL.out w0)
       (try simp only [Act.put, List.setIfInBounds_toArray, List.set_cons_zero, List.set_cons_succ])
       refine wpAnyH_ready (rs := [4]) (by kernel_rfl) (by simp) ?_
       refine' AllReadyH.cons ?hizbmr4 (fun K hK => ?hrzbmr4) AllReadyH.nil
       case hizbmr4 => (simp only [List.getElem?_toArray, List.getElem?_cons_succ, List.getElem?_cons_zero]; rfl)
       go_simp
       (refine (HVC.out _ hHeld).mono ?_; rintro e w6 ⟨rfl, hb6⟩; have HB6 := Lib.hid hb6; clear hb6)
       refine hK.out _ _ ?_ (fun hHeld => ?_)
       ·
        exact hHeld.next HI.out HB6.out
       clear hK K
       (try simp only [Act.put, List.setIfInBounds_toArray, List.set_cons_zero, List.set_cons_succ])
       refine' wpAnyH_take (i := 5) ?hizbmr5 (by kernel_rfl) (by kernel_rfl) (by kernel_rfl) ?hqzbmr5 (Or.inl ⟨?hwzbmr5, ?hyzbmr5⟩) (by assumption) ?hrzbmr5
       case hizbmr5 => (simp only [List.getElem?_toArray, List.getElem?_cons_succ, List.getElem?_cons_zero]; rfl)
       case hqzbmr5 => exact fun _ _ _ h => h
       case hwzbmr5 => rfl
       case hyzbmr5 => (intro w0 hSw; (try dsimp only at hSw); go_simp; try with_reducible rfl)
       (try simp only [Act.put, List.setIfInBounds_toArray, List.set_cons_zero, List.set_cons_succ])
       refine wpAnyH_done (by kernel_rfl) ?_ _
       have HM7 := Lib.hid hHeld
       have HB7 := Lib.hid (HB.out.trans ((((Below.refl _ wr).drew).trans HB6.out).mono HB.out.size))
       clear hHeld HM
       go_upto_region 17 with fail
       cases fl with
       | true =>
        refine wp_region_held_drew (S := MdS T w (.slice ka i kc) P i g G uG) (by kernel_rfl) ?_ (fun hHeld => ?_)
        ·
         exact HM7.out.next HI.out ((Below.refl _ _).drew)
        refine' wpAnyH_take (i := 0) ?hizbmt0 (by kernel_rfl) (by kernel_rfl) (by kernel_rfl) ?hqzbmt0 (Or.inl ⟨?hwzbmt0, ?hyzbmt0⟩) (by assumption) ?hrzbmt0
        case hizbmt0 => (simp only [List.getElem?_toArray, List.getElem?_cons_zero]; rfl)
        case hqzbmt0 => exact fun _ _ _ h => h
        case hwzbmt0 => rfl
        case hyzbmt0 => (intro w0 hSw; (try dsimp only at hSw); go_simp; try with_reducible rfl)
        (try simp only [Act.put, List.setIfInBounds_toArray, List.set_cons_zero, List.set_cons_succ])
        refine' wpAnyH_take (i := 1) ?hizbmt1 (by kernel_rfl) (by kernel_rfl) (by kernel_rfl) ?hqzbmt1 (Or.inl ⟨?hwzbmt1, ?hyzbmt1⟩) (by assumption) ?hrzbmt1
        case hizbmt1 => (simp only [List.getElem?_toArray, List.getElem?_cons_succ, List.getElem?_cons_zero]; rfl)
        case hqzbmt1 => exact fun _ _ _ h => h
        case hwzbmt1 => rfl
        case hyzbmt1 => (intro w0 hSw; (try dsimp only at hSw); go_simp; try with_reducible rfl)
        (try simp only [Act.put, List.setIfInBounds_toArray, List.set_cons_zero, List.set_cons_succ])
        refine' wpAnyH_take (i := 2) (v := undef) ?hizbmt2 (by kernel_rfl) (by kernel_rfl) (by kernel_rfl) ?hqzbmt2 (Or.inr ⟨?hwzbmt2, rfl⟩) (by assumption) ?hrzbmt2
        case hizbmt2 => (simp only [List.getElem?_toArray, List.getElem?_cons_succ, List.getElem?_cons_zero]; rfl)
        case hqzbmt2 => exact fun _ _ _ h => h
        case hwzbmt2 => rfl
        (try simp only [Act.put, List.setIfInBounds_toArray, List.set_cons_zero, List.set_cons_succ])
        refine' wpAnyH_take (i := 3) (v := undef) ?hizbmt3 (by kernel_rfl) (by kernel_rfl) (by kernel_rfl) ?hqzbmt3 (Or.inr ⟨?hwzbmt3, rfl⟩) (by assumption) ?hrzbmt3
        case hizbmt3 => (simp only [List.getElem?_toArray, List.getElem?_cons_succ, List.getElem?_cons_zero]; rfl)
        case hqzbmt3 => exact fun _ _ _ h => h
        case hwzbmt3 => rfl
        (try simp only [Act.put, List.setIfInBounds_toArray, List.set_cons_zero, List.set_cons_succ])
        refine' wpAnyH_take (i := 4) (v := undef) ?hizbmt4 (by kernel_rfl) (by kernel_rfl) (by kernel_rfl) ?hqzbmt4 (Or.inr ⟨?hwzbmt4, rfl⟩) (by assumption) ?hrzbmt4
        case hizbmt4 => (simp only [List.getElem?_toArray, List.getElem?_cons_succ, List.getElem?_cons_zero]; rfl)
        case hqzbmt4 => exact fun _ _ _ h => h
        case hwzbmt4 => rfl
        (try simp only [Act.put, List.setIfInBounds_toArray, List.set_cons_zero, List.set_cons_succ])
        refine' wpAnyH_take (i := 5) (v := undef) ?hizbmt5 (by kernel_rfl) (by kernel_rfl) (by kernel_rfl) ?hqzbmt5 (Or.inr ⟨?hwzbmt5, rfl⟩) (by assumption) ?hrzbmt5
        case hizbmt5 => (simp only [List.getElem?_toArray, List.getElem?_cons_succ, List.getElem?_cons_zero]; rfl)
        case hqzbmt5 => exact fun _ _ _ h => h
        case hwzbmt5 => rfl
        (try simp only [Act.put, List.setIfInBounds_toArray, List.set_cons_zero, List.set_cons_succ])
        refine' wpAnyH_take (i := 6) (v := undef) ?hizbmt6 (by kernel_rfl) (by kernel_rfl) (by kernel_rfl) ?hqzbmt6 (Or.inr ⟨?hwzbmt6, rfl⟩) (by assumption) ?hrzbmt6
        case hizbmt6 => (simp only [List.getElem?_toArray, List.getElem?_cons_succ, List.getElem?_cons_zero]; rfl)
        case hqzbmt6 => exact fun _ _ _ h => h
        case hwzbmt6 => rfl
        (try simp only [Act.put, List.setIfInBounds_toArray, List.set_cons_zero, List.set_cons_succ])
        refine' wpAnyH_take (i := 7) (v := undef) ?hizbmt7 (by kernel_rfl) (by kernel_rfl) (by kernel_rfl) ?hqzbmt7 (Or.inr ⟨?hwzbmt7, rfl⟩) (by assumption) ?hrzbmt7
        case hizbmt7 => (simp only [List.getElem?_toArray, List.getElem?_cons_succ, List.getElem?_cons_zero]; rfl)
        case hqzbmt7 => exact fun _ _ _ h => h
        case hwzbmt7 => rfl
        (try simp only [Act.put, List.setIfInBounds_toArray, List.set_cons_zero, List.set_cons_succ])
        refine' wpAnyH_take (i := 8) (v := undef) ?hizbmt8 (by kernel_rfl) (by kernel_rfl) (by kernel_rfl) ?hqzbmt8 (Or.inr ⟨?hwzbmt8, rfl⟩) (by assumption) ?hrzbmt8
        case hizbmt8 => (simp only [List.getElem?_toArray, List.getElem?_cons_succ, List.getElem?_cons_zero]; rfl)
        case hqzbmt8 => exact fun _ _ _ h => h
        case hwzbmt8 => rfl
        (try simp only [Act.put, List.setIfInBounds_toArray, List.set_cons_zero, List.set_cons_succ])
        refine' wpAnyH_take (i := 9) (v := undef) ?hizbmt9 (by kernel_rfl) (by kernel_rfl) (by kernel_rfl) ?hqzbmt9 (Or.inr ⟨?hwzbmt9, rfl⟩) (by assumption) ?hrzbmt9
        case hizbmt9 => (simp only [List.getElem?_toArray, List.getElem?_cons_succ, List.getElem?_cons_zero]; rfl)
        case hqzbmt9 => exact fun _ _ _ h => h
        case hwzbmt9 => rfl
        (try simp only [Act.put, List.setIfInBounds_toArray, List.set_cons_zero, List.set_cons_succ])
        refine' wpAnyH_take (i := 10) (v := undef) ?hizbmt10 (by kernel_rfl) (by kernel_rfl) (by kernel_rfl) ?hqzbmt10 (Or.inr ⟨?hwzbmt10, rfl⟩) (by assumption) ?hrzbmt10
        case hizbmt10 => (simp only [List.getElem?_toArray, List.getElem?_cons_succ, List.getElem?_cons_zero]; rfl)
        case hqzbmt10 => exact fun _ _ _ h => h
        case hwzbmt10 => rfl
        (try simp only [Act.put, List.setIfInBounds_toArray, List.set_cons_zero, List.set_cons_succ])
        refine' wpAnyH_take (i := 11) (v := undef) ?hizbmt11 (by kernel_rfl) (by kernel_rfl) (by kernel_rfl) ?hqzbmt11 (Or.inr ⟨?hwzbmt11, rfl⟩) (by assumption) ?hrzbmt11
        case hizbmt11 => (simp only [List.getElem?_toArray, List.getElem?_cons_succ, List.getElem?_cons_zero]; rfl)
        case hqzbmt11 => exact fun _ _ _ h => h
        case hwzbmt11 => rfl
        (try simp only [Act.put, List.setIfInBounds_toArray, List.set_cons_zero, List.set_cons_succ])
        refine' wpAnyH_take (i := 12) ?hizbmt12 (by kernel_rfl) (by kernel_rfl) (by kernel_rfl) ?hqzbmt12 (Or.inl ⟨?hwzbmt12, ?hyzbmt12⟩) (by assumption) ?hrzbmt12
        case hizbmt12 => (simp only [List.getElem?_toArray, List.getElem?_cons_succ, List.getElem?_cons_zero]; rfl)
        case hqzbmt12 => exact fun _ _ _ h => h
        case hwzbmt12 => rfl
        case hyzbmt12 => (intro w0 hSw; (try dsimp only at hSw); go_simp; try with_reducible rfl)
        (try simp only [Act.put, List.setIfInBounds_toArray, List.set_cons_zero, List.set_cons_succ])
        refine' wpAnyH_take (i := 13) ?hizbmt13 (by kernel_rfl) (by kernel_rfl) (by kernel_rfl) ?hqzbmt13 (Or.inl ⟨?hwzbmt13, ?hyzbmt13⟩) (by assumption) ?hrzbmt13
        case hizbmt13 => (simp only [List.getElem?_toArray, List.getElem?_cons_succ, List.getElem?_cons_zero]; rfl)
        case hqzbmt13 => exact fun _ _ _ h => h
        case hwzbmt13 => rfl
        case hyzbmt13 => (intro w0 hSw; (try dsimp only at hSw); go_simp; try with_reducible rfl)
        (try simp only [Act.put, List.setIfInBounds_toArray, List.set_cons_zero, List.set_cons_succ])
        refine' wpAnyH_take (i := 14) (v := undef) ?hizbmt14 (by kernel_rfl) (by kernel_rfl) (by kernel_rfl) ?hqzbmt14 (Or.inr ⟨?hwzbmt14, rfl⟩) (by assumption) ?hrzbmt14
        case hizbmt14 => (simp only [List.getElem?_toArray, List.getElem?_cons_succ, List.getElem?_cons_zero]; rfl)
        case hqzbmt14 => exact fun _ _ _ h => h
        case hwzbmt14 => rfl
        (try simp only [Act.put, List.setIfInBounds_toArray, List.set_cons_zero, List.set_cons_succ])
        refine' wpAnyH_take (i := 15) (v := undef) ?hizbmt15 (by kernel_rfl) (by kernel_rfl) (by kernel_rfl) ?hqzbmt15 (Or.inr ⟨?hwzbmt15, rfl⟩) (by assumption) ?hrzbmt15
        case hizbmt15 => (simp only [List.getElem?_toArray, List.getElem?_cons_succ, List.getElem?_cons_zero]; rfl)
        case hqzbmt15 => exact fun _ _ _ h => h
        case hwzbmt15 => rfl
        (try simp only [Act.put, List.setIfInBounds_toArray, List.set_cons_zero, List.set_cons_succ])
        refine' wpAnyH_take (i := 16) (v := undef) ?hizbmt16 (by kernel_rfl) (by kernel_rfl) (by kernel_rfl) ?hqzbmt16 (Or.inr ⟨?hwzbmt16, rfl⟩) (by assumption) ?hrzbmt16
        case hizbmt16 => (simp only [List.getElem?_toArray, List.getElem?_cons_succ, List.getElem?_cons_zero]; rfl)
        case hqzbmt16 => exact fun _ _ _ h => h
        case hwzbmt16 => rfl
        (try simp only [Act.put, List.setIfInBounds_toArray, List.set_cons_zero, List.set_cons_succ])
        refine' wpAnyH_take (i := 17) (v := undef) ?hizbmt17 (by kernel_rfl) (by kernel_rfl) (by kernel_rfl) ?hqzbmt17 (Or.inr ⟨?hwzbmt17, rfl⟩) (by assumption) ?hrzbmt17
        case hizbmt17 => (simp only [List.getElem?_toArray, List.getElem?_cons_succ, List.getElem?_cons_zero]; rfl)
        case hqzbmt17 => exact fun _ _ _ h => h
        case hwzbmt17 => rfl
        (try simp only [Act.put, List.setIfInBounds_toArray, List.set_cons_zero, List.set_cons_succ])
        refine' wpAnyH_take (i := 18) (v := undef) ?hizbmt18 (by kernel_rfl) (by kernel_rfl) (by kernel_rfl) ?hqzbmt18 (Or.inr ⟨?hwzbmt18, rfl⟩) (by assumption) ?hrzbmt18
        case hizbmt18 => (simp only [List.getElem?_toArray, List.getElem?_cons_succ, List.getElem?_cons_zero]; rfl)
        case hqzbmt18 => exact fun _ _ _ h => h
        case hwzbmt18 => rfl
        (try simp only [Act.put, List.setIfInBounds_toArray, List.set_cons_zero, List.set_cons_succ])
        refine' wpAnyH_take (i := 19) (v := undef) ?hizbmt19 (by kernel_rfl) (by kernel_rfl) (by kernel_rfl) ?hqzbmt19 (Or.inr ⟨?hwzbmt19, rfl⟩) (by assumption) ?hrzbmt19
        case hizbmt19 => (simp only [List.getElem?_toArray, List.getElem?_cons_succ, List.getElem?_cons_zero]; rfl)
        case hqzbmt19 => exact fun _ _ _ h => h
        case hwzbmt19 => rfl
        (try simp only [Act.put, List.setIfInBounds_toArray, List.set_cons_zero, List.set_cons_succ])
        refine' wpAnyH_take (i := 20) ?hizbmt20 (by kernel_rfl) (by kernel_rfl) (by kernel_rfl) ?hqzbmt20 (Or.inl ⟨?hwzbmt20, ?hyzbmt20⟩) (by assumption) ?hrzbmt20
        case hizbmt20 => (simp only [List.getElem?_toArray, List.getElem?_cons_succ, List.getElem?_cons_zero]; rfl)
        case hqzbmt20 => exact fun _ _ _ h => h
        case hwzbmt20 => rfl
        case hyzbmt20 => (intro w0 hSw; (try dsimp only at hSw); go_simp; try with_reducible rfl)
        (try simp only [Act.put, List.setIfInBounds_toArray, List.set_cons_zero, List.set_cons_succ])
        refine' wpAnyH_take (i := 21) ?hizbmt21 (by kernel_rfl) (by kernel_rfl) (by kernel_rfl) ?hqzbmt21 (Or.inl ⟨?hwzbmt21, ?hyzbmt21⟩) (by assumption) ?hrzbmt21
        case hizbmt21 => (simp only [List.getElem?_toArray, List.getElem?_cons_succ, List.getElem?_cons_zero]; rfl)
        case hqzbmt21 => exact fun _ _ _ h => h
        case hwzbmt21 => rfl
        case hyzbmt21 => (intro w0 hSw; (try dsimp only at hSw); go_simp; try with_reducible rfl)
        (try simp only [Act.put, List.setIfInBounds_toArray, List.set_cons_zero, List.set_cons_succ])
        refine wpAnyH_done (by kernel_rfl) ?_ _
        clear hHeld
        go_wp2_with fail
        go_roundw
        case rel => exact ⟨true, k + 1, hkt, rfl, by push_cast; rfl, HFT.out, HB7.out.trans (((Below.refl _ w6).drew).mono HB7.out.size)⟩
        case measure => simp [intOf]; omega
       | false =>
        by_cases hu : uk = []
        ·
         by_cases hz : vk = 0
         ·
          subst hz
          have hul : ((uk.length : Nat) : Int) = 0 := by rw [hu]; rfl
          obtain ⟨ul, hule⟩ : ∃ n, n = uk.length := ⟨_, rfl⟩
          rw [← hule] at hul
          have HUL := Lib.hid hule
          clear hule hu
          refine wp_region_held_drew (S := MdS T w (.slice ka i kc) P i g G uG) (by kernel_rfl) ?_ (fun hHeld => ?_)
          ·
           exact HM7.out.next HI.out ((Below.refl _ _).drew)
          refine' wpAnyH_take (i := 0) ?hizbmb0 (by kernel_rfl) (by kernel_rfl) (by kernel_rfl) ?hqzbmb0 (Or.inl ⟨?hwzbmb0, ?hyzbmb0⟩) (by assumption) ?hrzbmb0
          case hizbmb0 => (simp only [List.getElem?_toArray, List.getElem?_cons_zero]; rfl)
          case hqzbmb0 => exact fun _ _ _ h => h
          case hwzbmb0 => rfl
          case hyzbmb0 => (intro w0 hSw; (try dsimp only at hSw); go_simp; try with_reducible rfl)
          (try simp only [Act.put, List.setIfInBounds_toArray, List.set_cons_zero, List.set_cons_succ])
          refine' wpAnyH_take (i := 1) ?hizbmb1 (by kernel_rfl) (by kernel_rfl) (by kernel_rfl) ?hqzbmb1 (Or.inl ⟨?hwzbmb1, ?hyzbmb1⟩) (by assumption) ?hrzbmb1
          case hizbmb1 => (simp only [List.getElem?_toArray, List.getElem?_cons_succ, List.getElem?_cons_zero]; rfl)
          case hqzbmb1 => exact fun _ _ _ h => h
          case hwzbmb1 => rfl
          case hyzbmb1 => (intro w0 hSw; (try dsimp only at hSw); go_simp; try with_reducible rfl)
          (try simp only [Act.put, List.setIfInBounds_toArray, List.set_cons_zero, List.set_cons_succ])
          refine' wpAnyH_take (i := 2) ?hizbmb2 (by kernel_rfl) (by kernel_rfl) (by kernel_rfl) ?hqzbmb2 (Or.inl ⟨?hwzbmb2, ?hyzbmb2⟩) (by assumption) ?hrzbmb2
          case hizbmb2 => (simp only [List.getElem?_toArray, List.getElem?_cons_succ, List.getElem?_cons_zero]; rfl)
          case hqzbmb2 => exact fun _ _ _ h => h
          case hwzbmb2 => rfl
          case hyzbmb2 => (intro w0 hSw; (try dsimp only at hSw); go_simp; try with_reducible rfl)
          (try simp only [Act.put, List.setIfInBounds_toArray, List.set_cons_zero, List.set_cons_succ])
          refine' wpAnyH_take (i := 3) ?hizbmb3 (by kernel_rfl) (by kernel_rfl) (by kernel_rfl) ?hqzbmb3 (Or.inl ⟨?hwzbmb3, ?hyzbmb3⟩) (by assumption) ?hrzbmb3
          case hizbmb3 => (simp only [List.getElem?_toArray, List.getElem?_cons_succ, List.getElem?_cons_zero]; rfl)
          case hqzbmb3 => exact fun _ _ _ h => h
          case hwzbmb3 => rfl
          case hyzbmb3 => (intro w0 hSw; (try dsimp only at hSw); go_simp; try with_reducible rfl)
          (try simp only [Act.put, List.setIfInBounds_toArray, List.set_cons_zero, List.set_cons_succ])
          refine' wpAnyH_take (i := 4) ?hizbmb4 (by kernel_rfl) (by kernel_rfl) (by kernel_rfl) ?hqzbmb4 (Or.inl ⟨?hwzbmb4, ?hyzbmb4⟩) (by assumption) ?hrzbmb4
          case hizbmb4 => (simp only [List.getElem?_toArray, List.getElem?_cons_succ, List.getElem?_cons_zero]; rfl)
          case hqzbmb4 => exact fun _ _ _ h => h
          case hwzbmb4 => rfl
          case hyzbmb4 => exact fun w0 hSw => run_exec_load rfl rfl (HL.out w0 hSw)
          (try simp only [Act.put, List.setIfInBounds_toArray, List.set_cons_zero, List.set_cons_succ])
          refine' wpAnyH_take (i := 5) ?hizbmb5 (by kernel_rfl) (by kernel_rfl) (by kernel_rfl) ?hqzbmb5 (Or.inl ⟨?hwzbmb5, ?hyzbmb5⟩) (by assumption) ?hrzbmb5
          case hizbmb5 => (simp only [List.getElem?_toArray, List.getElem?_cons_succ, List.getElem?_cons_zero]; rfl)
          case hqzbmb5 => exact fun _ _ _ h => h
          case hwzbmb5 => rfl
          case hyzbmb5 => (intro w0 hSw; (try dsimp only at hSw); go_simp; try with_reducible rfl)
          (try simp only [Act.put, List.setIfInBounds_toArray, List.set_cons_zero, List.set_cons_succ])
          refine' wpAnyH_take (i := 6) ?hizbmb6 (by kernel_rfl) (by kernel_rfl) (by kernel_rfl) ?hqzbmb6 (Or.inl ⟨?hwzbmb6, ?hyzbmb6⟩) (by assumption) ?hrzbmb6
          case hizbmb6 => (simp only [List.getElem?_toArray, List.getElem?_cons_succ, List.getElem?_cons_zero]; rfl)
          case hqzbmb6 => exact fun _ _ _ h => h
          case hwzbmb6 => rfl
          case hyzbmb6 => (intro w0 hSw; (try dsimp only at hSw); go_simp; try with_reducible rfl)
          (try simp only [Act.put, List.setIfInBounds_toArray, List.set_cons_zero, List.set_cons_succ])
          refine' wpAnyH_take (i := 7) ?hizbmb7 (by kernel_rfl) (by kernel_rfl) (by kernel_rfl) ?hqzbmb7 (Or.inl ⟨?hwzbmb7, ?hyzbmb7⟩) (by assumption) ?hrzbmb7
          case hizbmb7 => (simp only [List.getElem?_toArray, List.getElem?_cons_succ, List.getElem?_cons_zero]; rfl)
          case hqzbmb7 => exact fun _ _ _ h => h
          case hwzbmb7 => rfl
          case hyzbmb7 => exact fun w0 hSw => exec_hi rfl rfl rfl (HSL.out w0)
          (try simp only [Act.put, List.setIfInBounds_toArray, List.set_cons_zero, List.set_cons_succ])
          refine wpAnyH_ready (rs := [8]) (by kernel_rfl) (by simp) ?_
          refine' AllReadyH.cons ?hizbmb8 (fun K hK => ?hrzbmb8) AllReadyH.nil
          case hizbmb8 => (simp only [List.getElem?_toArray, List.getElem?_cons_succ, List.getElem?_cons_zero]; rfl)
          go_simp
          (refine (HUC.out _ hHeld).mono ?_; rintro e w8 ⟨o, rfl, ho, hb8⟩; obtain ⟨oa, oc, rfl⟩ := ho.form; rw [← HUL.out]; have HB8 := Lib.hid hb8; clear hb8 ho)
          refine hK.out _ _ ?_ (fun hHeld => ?_)
          ·
           exact hHeld.next HI.out HB8.out
          clear hK K
          (try simp only [Act.put, List.setIfInBounds_toArray, List.set_cons_zero, List.set_cons_succ])
          refine' wpAnyH_take (i := 9) ?hizbmb9 (by kernel_rfl) (by kernel_rfl) (by kernel_rfl) ?hqzbmb9 (Or.inl ⟨?hwzbmb9, ?hyzbmb9⟩) (by assumption) ?hrzbmb9
          case hizbmb9 => (simp only [List.getElem?_toArray, List.getElem?_cons_succ, List.getElem?_cons_zero]; rfl)
          case hqzbmb9 => exact fun _ _ _ h => h
          case hwzbmb9 => rfl
          case hyzbmb9 => (intro w0 hSw; (try dsimp only at hSw); go_simp; try with_reducible rfl)
          (try simp only [Act.put, List.setIfInBounds_toArray, List.set_cons_zero, List.set_cons_succ])
          refine' wpAnyH_take (i := 10) ?hizbmb10 (by kernel_rfl) (by kernel_rfl) (by kernel_rfl) ?hqzbmb10 (Or.inl ⟨?hwzbmb10, ?hyzbmb10⟩) (by assumption) ?hrzbmb10
          case hizbmb10 => (simp only [List.getElem?_toArray, List.getElem?_cons_succ, List.getElem?_cons_zero]; rfl)
          case hqzbmb10 => exact fun _ _ _ h => h
          case hwzbmb10 => rfl
          case hyzbmb10 => (intro w0 hSw; (try dsimp only at hSw); go_simp; try with_reducible rfl)
          (try simp only [Act.put, List.setIfInBounds_toArray, List.set_cons_zero, List.set_cons_succ])
          refine' wpAnyH_take (i := 11) ?hizbmb11 (by kernel_rfl) (by kernel_rfl) (by kernel_rfl) ?hqzbmb11 (Or.inl ⟨?hwzbmb11, ?hyzbmb11⟩) (by assumption) ?hrzbmb11
          case hizbmb11 => (simp only [List.getElem?_toArray, List.getElem?_cons_succ, List.getElem?_cons_zero]; rfl)
          case hqzbmb11 => exact fun _ _ _ h => h
          case hwzbmb11 => rfl
          case hyzbmb11 => (intro w0 hSw; (try dsimp only at hSw); go_simp; try with_reducible rfl)
          (try simp only [Act.put, List.setIfInBounds_toArray, List.set_cons_zero, List.set_cons_succ])
          refine' wpAnyH_take (i := 12) ?hizbmb12 (by kernel_rfl) (by kernel_rfl) (by kernel_rfl) ?hqzbmb12 (Or.inl ⟨?hwzbmb12, ?hyzbmb12⟩) (by assumption) ?hrzbmb12
          case hizbmb12 => (simp only [List.getElem?_toArray, List.getElem?_cons_succ, List.getElem?_cons_zero]; rfl)
          case hqzbmb12 => exact fun _ _ _ h => h
          case hwzbmb12 => rfl
          case hyzbmb12 => (intro w0 hSw; (try dsimp only at hSw); go_simp; try with_reducible rfl)
          (try simp only [Act.put, List.setIfInBounds_toArray, List.set_cons_zero, List.set_cons_succ])
          refine' wpAnyH_take (i := 13) ?hizbmb13 (by kernel_rfl) (by kernel_rfl) (by kernel_rfl) ?hqzbmb13 (Or.inl ⟨?hwzbmb13, ?hyzbmb13⟩) (by assumption) ?hrzbmb13
          case hizbmb13 => (simp only [List.getElem?_toArray, List.getElem?_cons_succ, List.getElem?_cons_zero]; rfl)
          case hqzbmb13 => exact fun _ _ _ h => h
          case hwzbmb13 => rfl
          case hyzbmb13 => (intro w0 hSw; (try dsimp only at hSw); go_simp; try with_reducible rfl)
          (try simp only [Act.put, List.setIfInBounds_toArray, List.set_cons_zero, List.set_cons_succ])
          refine' wpAnyH_take (i := 14) ?hizbmb14 (by kernel_rfl) (by kernel_rfl) (by kernel_rfl) ?hqzbmb14 (Or.inl ⟨?hwzbmb14, ?hyzbmb14⟩) (by assumption) ?hrzbmb14
          case hizbmb14 => (simp only [List.getElem?_toArray, List.getElem?_cons_succ, List.getElem?_cons_zero]; rfl)
          case hqzbmb14 => exact fun _ _ _ h => h
          case hwzbmb14 => rfl
          case hyzbmb14 => (intro w0 hSw; (try dsimp only at hSw); go_simp; try with_reducible rfl)
          (try simp only [Act.put, List.setIfInBounds_toArray, List.set_cons_zero, List.set_cons_succ])
          refine' wpAnyH_take (i := 15) ?hizbmb15 (by kernel_rfl) (by kernel_rfl) (by kernel_rfl) ?hqzbmb15 (Or.inl ⟨?hwzbmb15, ?hyzbmb15⟩) (by assumption) ?hrzbmb15
          case hizbmb15 => (simp only [List.getElem?_toArray, List.getElem?_cons_succ, List.getElem?_cons_zero]; rfl)
          case hqzbmb15 => exact fun _ _ _ h => h
          case hwzbmb15 => rfl
          case hyzbmb15 => (intro w0 hSw; (try dsimp only at hSw); go_simp; try with_reducible rfl)
          (try simp only [Act.put, List.setIfInBounds_toArray, List.set_cons_zero, List.set_cons_succ])
          refine' wpAnyH_take (i := 16) ?hizbmb16 (by kernel_rfl) (by kernel_rfl) (by kernel_rfl) ?hqzbmb16 (Or.inl ⟨?hwzbmb16, ?hyzbmb16⟩) (by assumption) ?hrzbmb16
          case hizbmb16 => (simp only [List.getElem?_toArray, List.getElem?_cons_succ, List.getElem?_cons_zero]; rfl)
          case hqzbmb16 => exact fun _ _ _ h => h
          case hwzbmb16 => rfl
          case hyzbmb16 => (intro w0 hSw; (try dsimp only at hSw); go_simp; try with_reducible rfl)
          (try simp only [Act.put, List.setIfInBounds_toArray, List.set_cons_zero, List.set_cons_succ])
          refine' wpAnyH_take (i := 17) (v := undef) ?hizbmb17 (by kernel_rfl) (by kernel_rfl) (by kernel_rfl) ?hqzbmb17 (Or.inr ⟨?hwzbmb17, rfl⟩) (by assumption) ?hrzbmb17
          case hizbmb17 => (simp only [List.getElem?_toArray, List.getElem?_cons_succ, List.getElem?_cons_zero]; rfl)
          case hqzbmb17 => exact fun _ _ _ h => h
          case hwzbmb17 => rfl
          (try simp only [Act.put, List.setIfInBounds_toArray, List.set_cons_zero, List.set_cons_succ])
          refine' wpAnyH_take (i := 18) (v := undef) ?hizbmb18 (by kernel_rfl) (by kernel_rfl) (by kernel_rfl) ?hqzbmb18 (Or.inr ⟨?hwzbmb18, rfl⟩) (by assumption) ?hrzbmb18
          case hizbmb18 => (simp only [List.getElem?_toArray, List.getElem?_cons_succ, List.getElem?_cons_zero]; rfl)
          case hqzbmb18 => exact fun _ _ _ h => h
          case hwzbmb18 => rfl
          (try simp only [Act.put, List.setIfInBounds_toArray, List.set_cons_zero, List.set_cons_succ])
          refine' wpAnyH_take (i := 19) ?hizbmb19 (by kernel_rfl) (by kernel_rfl) (by kernel_rfl) ?hqzbmb19 (Or.inl ⟨?hwzbmb19, ?hyzbmb19⟩) (by assumption) ?hrzbmb19
          case hizbmb19 => (simp only [List.getElem?_toArray, List.getElem?_cons_succ, List.getElem?_cons_zero]; rfl)
          case hqzbmb19 => exact fun _ _ _ h => h
          case hwzbmb19 => rfl
          case hyzbmb19 => (intro w0 hSw; (try dsimp only at hSw); go_simp; try with_reducible rfl)
          (try simp only [Act.put, List.setIfInBounds_toArray, List.set_cons_zero, List.set_cons_succ])
          refine' wpAnyH_take (i := 20) ?hizbmb20 (by kernel_rfl) (by kernel_rfl) (by kernel_rfl) ?hqzbmb20 (Or.inl ⟨?hwzbmb20, ?hyzbmb20⟩) (by assumption) ?hrzbmb20
          case hizbmb20 => (simp only [List.getElem?_toArray, List.getElem?_cons_succ, List.getElem?_cons_zero]; rfl)
          case hqzbmb20 => exact fun _ _ _ h => h
          case hwzbmb20 => rfl
          case hyzbmb20 => (intro w0 hSw; (try dsimp only at hSw); go_simp; try with_reducible rfl)
          (try simp only [Act.put, List.setIfInBounds_toArray, List.set_cons_zero, List.set_cons_succ])
          refine' wpAnyH_take (i := 21) ?hizbmb21 (by kernel_rfl) (by kernel_rfl) (by kernel_rfl) ?hqzbmb21 (Or.inl ⟨?hwzbmb21, ?hyzbmb21⟩) (by assumption) ?hrzbmb21
          case hizbmb21 => (simp only [List.getElem?_toArray, List.getElem?_cons_succ, List.getElem?_cons_zero]; rfl)
          case hqzbmb21 => exact fun _ _ _ h => h
          case hwzbmb21 => rfl
          case hyzbmb21 => (intro w0 hSw; (try dsimp only at hSw); go_simp; try with_reducible rfl)
          (try simp only [Act.put, List.setIfInBounds_toArray, List.set_cons_zero, List.set_cons_succ])
          refine wpAnyH_done (by kernel_rfl) ?_ _
          clear hHeld
          go_wp2_with fail
          go_roundw
          case rel => exact ⟨false, k + 1, hkt, rfl, by push_cast; rfl, fun h => (by cases h), (HB7.out.trans (((Below.refl _ w6).drew).mono HB7.out.size)).trans (HB8.out.mono (Nat.le_trans HB7.out.size (Nat.le_refl _)))⟩
          case measure => simp [intOf]; omega
         ·
          have hne : (vk == 0) = false := beq_eq_false_iff_ne.2 hz
          have HTW := Lib.hid (HC.out hu hz)
          have hul : ((uk.length : Nat) : Int) = 0 := by rw [hu]; rfl
          obtain ⟨ul, hule⟩ : ∃ n, n = uk.length := ⟨_, rfl⟩
          rw [← hule] at hul
          have HUL := Lib.hid hule
          clear hule hu hz
          refine wp_region_held_drew (S := MdS T w (.slice ka i kc) P i g G uG) (by kernel_rfl) ?_ (fun hHeld => ?_)
          ·
           exact HM7.out.next HI.out ((Below.refl _ _).drew)
          refine' wpAnyH_take (i := 0) ?hizbmc0 (by kernel_rfl) (by kernel_rfl) (by kernel_rfl) ?hqzbmc0 (Or.inl ⟨?hwzbmc0, ?hyzbmc0⟩) (by assumption) ?hrzbmc0
          case hizbmc0 => (simp only [List.getElem?_toArray, List.getElem?_cons_zero]; rfl)
          case hqzbmc0 => exact fun _ _ _ h => h
          case hwzbmc0 => rfl
          case hyzbmc0 => (intro w0 hSw; (try dsimp only at hSw); go_simp; try with_reducible rfl)
          (try simp only [Act.put, List.setIfInBounds_toArray, List.set_cons_zero, List.set_cons_succ])
          refine' wpAnyH_take (i := 1) ?hizbmc1 (by kernel_rfl) (by kernel_rfl) (by kernel_rfl) ?hqzbmc1 (Or.inl ⟨?hwzbmc1, ?hyzbmc1⟩) (by assumption) ?hrzbmc1
          case hizbmc1 => (simp only [List.getElem?_toArray, List.getElem?_cons_succ, List.getElem?_cons_zero]; rfl)
          case hqzbmc1 => exact fun _ _ _ h => h
          case hwzbmc1 => rfl
          case hyzbmc1 => (intro w0 hSw; (try dsimp only at hSw); go_simp; try with_reducible rfl)
          (try simp only [Act.put, List.setIfInBounds_toArray, List.set_cons_zero, List.set_cons_succ])
          refine' wpAnyH_take (i := 2) ?hizbmc2 (by kernel_rfl) (by kernel_rfl) (by kernel_rfl) ?hqzbmc2 (Or.inl ⟨?hwzbmc2, ?hyzbmc2⟩) (by assumption) ?hrzbmc2
          case hizbmc2 => (simp only [List.getElem?_toArray, List.getElem?_cons_succ, List.getElem?_cons_zero]; rfl)
          case hqzbmc2 => exact fun _ _ _ h => h
          case hwzbmc2 => rfl
          case hyzbmc2 => (intro w0 hSw; (try dsimp only at hSw); go_simp; try with_reducible rfl)
          (try simp only [Act.put, List.setIfInBounds_toArray, List.set_cons_zero, List.set_cons_succ])
          refine' wpAnyH_take (i := 3) ?hizbmc3 (by kernel_rfl) (by kernel_rfl) (by kernel_rfl) ?hqzbmc3 (Or.inl ⟨?hwzbmc3, ?hyzbmc3⟩) (by assumption) ?hrzbmc3
          case hizbmc3 => (simp only [List.getElem?_toArray, List.getElem?_cons_succ, List.getElem?_cons_zero]; rfl)
          case hqzbmc3 => exact fun _ _ _ h => h
          case hwzbmc3 => rfl
          case hyzbmc3 => (intro w0 hSw; (try dsimp only at hSw); go_simp; try with_reducible rfl)
          (try simp only [Act.put, List.setIfInBounds_toArray, List.set_cons_zero, List.set_cons_succ])
          refine' wpAnyH_take (i := 4) ?hizbmc4 (by kernel_rfl) (by kernel_rfl) (by kernel_rfl) ?hqzbmc4 (Or.inl ⟨?hwzbmc4, ?hyzbmc4⟩) (by assumption) ?hrzbmc4
          case hizbmc4 => (simp only [List.getElem?_toArray, List.getElem?_cons_succ, List.getElem?_cons_zero]; rfl)
          case hqzbmc4 => exact fun _ _ _ h => h
          case hwzbmc4 => rfl
          case hyzbmc4 => exact fun w0 hSw => run_exec_load rfl rfl (HL.out w0 hSw)
          (try simp only [Act.put, List.setIfInBounds_toArray, List.set_cons_zero, List.set_cons_succ])
          refine' wpAnyH_take (i := 5) ?hizbmc5 (by kernel_rfl) (by kernel_rfl) (by kernel_rfl) ?hqzbmc5 (Or.inl ⟨?hwzbmc5, ?hyzbmc5⟩) (by assumption) ?hrzbmc5
          case hizbmc5 => (simp only [List.getElem?_toArray, List.getElem?_cons_succ, List.getElem?_cons_zero]; rfl)
          case hqzbmc5 => exact fun _ _ _ h => h
          case hwzbmc5 => rfl
          case hyzbmc5 => (intro w0 hSw; (try dsimp only at hSw); go_simp; try with_reducible rfl)
          (try simp only [Act.put, List.setIfInBounds_toArray, List.set_cons_zero, List.set_cons_succ])
          refine' wpAnyH_take (i := 6) ?hizbmc6 (by kernel_rfl) (by kernel_rfl) (by kernel_rfl) ?hqzbmc6 (Or.inl ⟨?hwzbmc6, ?hyzbmc6⟩) (by assumption) ?hrzbmc6
          case hizbmc6 => (simp only [List.getElem?_toArray, List.getElem?_cons_succ, List.getElem?_cons_zero]; rfl)
          case hqzbmc6 => exact fun _ _ _ h => h
          case hwzbmc6 => rfl
          case hyzbmc6 => (intro w0 hSw; (try dsimp only at hSw); go_simp; try with_reducible rfl)
          (try simp only [Act.put, List.setIfInBounds_toArray, List.set_cons_zero, List.set_cons_succ])
          refine' wpAnyH_take (i := 7) ?hizbmc7 (by kernel_rfl) (by kernel_rfl) (by kernel_rfl) ?hqzbmc7 (Or.inl ⟨?hwzbmc7, ?hyzbmc7⟩) (by assumption) ?hrzbmc7
          case hizbmc7 => (simp only [List.getElem?_toArray, List.getElem?_cons_succ, List.getElem?_cons_zero]; rfl)
          case hqzbmc7 => exact fun _ _ _ h => h
          case hwzbmc7 => rfl
          case hyzbmc7 => exact fun w0 hSw => exec_hi rfl rfl rfl (HSL.out w0)
          (try simp only [Act.put, List.setIfInBounds_toArray, List.set_cons_zero, List.set_cons_succ])
          refine wpAnyH_ready (rs := [8]) (by kernel_rfl) (by simp) ?_
          refine' AllReadyH.cons ?hizbmc8 (fun K hK => ?hrzbmc8) AllReadyH.nil
          case hizbmc8 => (simp only [List.getElem?_toArray, List.getElem?_cons_succ, List.getElem?_cons_zero]; rfl)
          go_simp
          (refine (HUC.out _ hHeld).mono ?_; rintro e w8 ⟨o, rfl, ho, hb8⟩; obtain ⟨oa, oc, rfl⟩ := ho.form; rw [← HUL.out]; have HB8 := Lib.hid hb8; clear hb8 ho)
          refine hK.out _ _ ?_ (fun hHeld => ?_)
          ·
           exact hHeld.next HI.out HB8.out
          clear hK K
          (try simp only [Act.put, List.setIfInBounds_toArray, List.set_cons_zero, List.set_cons_succ])
          refine' wpAnyH_take (i := 9) ?hizbmc9 (by kernel_rfl) (by kernel_rfl) (by kernel_rfl) ?hqzbmc9 (Or.inl ⟨?hwzbmc9, ?hyzbmc9⟩) (by assumption) ?hrzbmc9
          case hizbmc9 => (simp only [List.getElem?_toArray, List.getElem?_cons_succ, List.getElem?_cons_zero]; rfl)
          case hqzbmc9 => exact fun _ _ _ h => h
          case hwzbmc9 => rfl
          case hyzbmc9 => (intro w0 hSw; (try dsimp only at hSw); go_simp; try with_reducible rfl)
          (try simp only [Act.put, List.setIfInBounds_toArray, List.set_cons_zero, List.set_cons_succ])
          refine' wpAnyH_take (i := 10) ?hizbmc10 (by kernel_rfl) (by kernel_rfl) (by kernel_rfl) ?hqzbmc10 (Or.inl ⟨?hwzbmc10, ?hyzbmc10⟩) (by assumption) ?hrzbmc10
          case hizbmc10 => (simp only [List.getElem?_toArray, List.getElem?_cons_succ, List.getElem?_cons_zero]; rfl)
          case hqzbmc10 => exact fun _ _ _ h => h
          case hwzbmc10 => rfl
          case hyzbmc10 => (intro w0 hSw; (try dsimp only at hSw); go_simp; try with_reducible rfl)
          (try simp only [Act.put, List.setIfInBounds_toArray, List.set_cons_zero, List.set_cons_succ])
          refine' wpAnyH_take (i := 11) ?hizbmc11 (by kernel_rfl) (by kernel_rfl) (by kernel_rfl) ?hqzbmc11 (Or.inl ⟨?hwzbmc11, ?hyzbmc11⟩) (by assumption) ?hrzbmc11
          case hizbmc11 => (simp only [List.getElem?_toArray, List.getElem?_cons_succ, List.getElem?_cons_zero]; rfl)
          case hqzbmc11 => exact fun _ _ _ h => h
          case hwzbmc11 => rfl
          case hyzbmc11 => (intro w0 hSw; (try dsimp only at hSw); go_simp; try with_reducible rfl)
          (try simp only [Act.put, List.setIfInBounds_toArray, List.set_cons_zero, List.set_cons_succ])
          refine' wpAnyH_take (i := 12) ?hizbmc12 (by kernel_rfl) (by kernel_rfl) (by kernel_rfl) ?hqzbmc12 (Or.inl ⟨?hwzbmc12, ?hyzbmc12⟩) (by assumption) ?hrzbmc12
          case hizbmc12 => (simp only [List.getElem?_toArray, List.getElem?_cons_succ, List.getElem?_cons_zero]; rfl)
          case hqzbmc12 => exact fun _ _ _ h => h
          case hwzbmc12 => rfl
          case hyzbmc12 => (intro w0 hSw; (try dsimp only at hSw); go_simp; try with_reducible rfl)
          (try simp only [Act.put, List.setIfInBounds_toArray, List.set_cons_zero, List.set_cons_succ])
          refine' wpAnyH_take (i := 13) ?hizbmc13 (by kernel_rfl) (by kernel_rfl) (by kernel_rfl) ?hqzbmc13 (Or.inl ⟨?hwzbmc13, ?hyzbmc13⟩) (by assumption) ?hrzbmc13
          case hizbmc13 => (simp only [List.getElem?_toArray, List.getElem?_cons_succ, List.getElem?_cons_zero]; rfl)
          case hqzbmc13 => exact fun _ _ _ h => h
          case hwzbmc13 => rfl
          case hyzbmc13 => (intro w0 hSw; (try dsimp only at hSw); go_simp; try with_reducible rfl)
          (try simp only [Act.put, List.setIfInBounds_toArray, List.set_cons_zero, List.set_cons_succ])
          refine' wpAnyH_take (i := 14) (v := undef) ?hizbmc14 (by kernel_rfl) (by kernel_rfl) (by kernel_rfl) ?hqzbmc14 (Or.inr ⟨?hwzbmc14, rfl⟩) (by assumption) ?hrzbmc14
          case hizbmc14 => (simp only [List.getElem?_toArray, List.getElem?_cons_succ, List.getElem?_cons_zero]; rfl)
          case hqzbmc14 => exact fun _ _ _ h => h
          case hwzbmc14 => rfl
          (try simp only [Act.put, List.setIfInBounds_toArray, List.set_cons_zero, List.set_cons_succ])
          refine' wpAnyH_take (i := 15) (v := undef) ?hizbmc15 (by kernel_rfl) (by kernel_rfl) (by kernel_rfl) ?hqzbmc15 (Or.inr ⟨?hwzbmc15, rfl⟩) (by assumption) ?hrzbmc15
          case hizbmc15 => (simp only [List.getElem?_toArray, List.getElem?_cons_succ, List.getElem?_cons_zero]; rfl)
          case hqzbmc15 => exact fun _ _ _ h => h
          case hwzbmc15 => rfl
          (try simp only [Act.put, List.setIfInBounds_toArray, List.set_cons_zero, List.set_cons_succ])
          refine' wpAnyH_take (i := 16) (v := undef) ?hizbmc16 (by kernel_rfl) (by kernel_rfl) (by kernel_rfl) ?hqzbmc16 (Or.inr ⟨?hwzbmc16, rfl⟩) (by assumption) ?hrzbmc16
          case hizbmc16 => (simp only [List.getElem?_toArray, List.getElem?_cons_succ, List.getElem?_cons_zero]; rfl)
          case hqzbmc16 => exact fun _ _ _ h => h
          case hwzbmc16 => rfl
          (try simp only [Act.put, List.setIfInBounds_toArray, List.set_cons_zero, List.set_cons_succ])
          refine' wpAnyH_take (i := 17) (v := undef) ?hizbmc17 (by kernel_rfl) (by kernel_rfl) (by kernel_rfl) ?hqzbmc17 (Or.inr ⟨?hwzbmc17, rfl⟩) (by assumption) ?hrzbmc17
          case hizbmc17 => (simp only [List.getElem?_toArray, List.getElem?_cons_succ, List.getElem?_cons_zero]; rfl)
          case hqzbmc17 => exact fun _ _ _ h => h
          case hwzbmc17 => rfl
          (try simp only [Act.put, List.setIfInBounds_toArray, List.set_cons_zero, List.set_cons_succ])
          refine' wpAnyH_take (i := 18) (v := undef) ?hizbmc18 (by kernel_rfl) (by kernel_rfl) (by kernel_rfl) ?hqzbmc18 (Or.inr ⟨?hwzbmc18, rfl⟩) (by assumption) ?hrzbmc18
          case hizbmc18 => (simp only [List.getElem?_toArray, List.getElem?_cons_succ, List.getElem?_cons_zero]; rfl)
          case hqzbmc18 => exact fun _ _ _ h => h
          case hwzbmc18 => rfl
          (try simp only [Act.put, List.setIfInBounds_toArray, List.set_cons_zero, List.set_cons_succ])
          refine' wpAnyH_take (i := 19) (v := undef) ?hizbmc19 (by kernel_rfl) (by kernel_rfl) (by kernel_rfl) ?hqzbmc19 (Or.inr ⟨?hwzbmc19, rfl⟩) (by assumption) ?hrzbmc19
          case hizbmc19 => (simp only [List.getElem?_toArray, List.getElem?_cons_succ, List.getElem?_cons_zero]; rfl)
          case hqzbmc19 => exact fun _ _ _ h => h
          case hwzbmc19 => rfl
          (try simp only [Act.put, List.setIfInBounds_toArray, List.set_cons_zero, List.set_cons_succ])
          refine' wpAnyH_take (i := 20) ?hizbmc20 (by kernel_rfl) (by kernel_rfl) (by kernel_rfl) ?hqzbmc20 (Or.inl ⟨?hwzbmc20, ?hyzbmc20⟩) (by assumption) ?hrzbmc20
          case hizbmc20 => (simp only [List.getElem?_toArray, List.getElem?_cons_succ, List.getElem?_cons_zero]; rfl)
          case hqzbmc20 => exact fun _ _ _ h => h
          case hwzbmc20 => rfl
          case hyzbmc20 => (intro w0 hSw; (try dsimp only at hSw); go_simp; try with_reducible rfl)
          (try simp only [Act.put, List.setIfInBounds_toArray, List.set_cons_zero, List.set_cons_succ])
          refine' wpAnyH_take (i := 21) ?hizbmc21 (by kernel_rfl) (by kernel_rfl) (by kernel_rfl) ?hqzbmc21 (Or.inl ⟨?hwzbmc21, ?hyzbmc21⟩) (by assumption) ?hrzbmc21
          case hizbmc21 => (simp only [List.getElem?_toArray, List.getElem?_cons_succ, List.getElem?_cons_zero]; rfl)
          case hqzbmc21 => exact fun _ _ _ h => h
          case hwzbmc21 => rfl
          case hyzbmc21 => (intro w0 hSw; (try dsimp only at hSw); go_simp; try with_reducible rfl)
          (try simp only [Act.put, List.setIfInBounds_toArray, List.set_cons_zero, List.set_cons_succ])
          refine wpAnyH_done (by kernel_rfl) ?_ _
          clear hHeld
          go_wp2_with fail
          go_roundw
          case rel => exact ⟨true, k + 1, hkt, rfl, by push_cast; rfl, fun _ => HTW.out, (HB7.out.trans (((Below.refl _ w6).drew).mono HB7.out.size)).trans (HB8.out.mono (Nat.le_trans HB7.out.size (Nat.le_refl _)))⟩
          case measure => simp [intOf]; omega
        ·
         obtain rfl : vk = 11 := HA.out hu
         have hul : (0 : Int) < ((uk.length : Nat) : Int) := by have := List.length_pos_iff.2 hu; omega
         obtain ⟨ul, hule⟩ : ∃ n, n = uk.length := ⟨_, rfl⟩
         rw [← hule] at hul
         have hne : ((ul : Int) == 0) = false := beq_eq_false_iff_ne.2 (by omega)
         have HUL := Lib.hid hule
         clear hule hu
         refine wp_region_held_drew (S := MdS T w (.slice ka i kc) P i g G uG) (by kernel_rfl) ?_ (fun hHeld => ?_)
         ·
          exact HM7.out.next HI.out ((Below.refl _ _).drew)
         refine' wpAnyH_take (i := 0) ?hizbma0 (by kernel_rfl) (by kernel_rfl) (by kernel_rfl) ?hqzbma0 (Or.inl ⟨?hwzbma0, ?hyzbma0⟩) (by assumption) ?hrzbma0
         case hizbma0 => (simp only [List.getElem?_toArray, List.getElem?_cons_zero]; rfl)
         case hqzbma0 => exact fun _ _ _ h => h
         case hwzbma0 => rfl
         case hyzbma0 => (intro w0 hSw; (try dsimp only at hSw); go_simp; try with_reducible rfl)
         (try simp only [Act.put, List.setIfInBounds_toArray, List.set_cons_zero, List.set_cons_succ])
         refine' wpAnyH_take (i := 1) ?hizbma1 (by kernel_rfl) (by kernel_rfl) (by kernel_rfl) ?hqzbma1 (Or.inl ⟨?hwzbma1, ?hyzbma1⟩) (by assumption) ?hrzbma1
         case hizbma1 => (simp only [List.getElem?_toArray, List.getElem?_cons_succ, List.getElem?_cons_zero]; rfl)
         case hqzbma1 => exact fun _ _ _ h => h
         case hwzbma1 => rfl
         case hyzbma1 => (intro w0 hSw; (try dsimp only at hSw); go_simp; try with_reducible rfl)
         (try simp only [Act.put, List.setIfInBounds_toArray, List.set_cons_zero, List.set_cons_succ])
         refine' wpAnyH_take (i := 2) ?hizbma2 (by kernel_rfl) (by kernel_rfl) (by kernel_rfl) ?hqzbma2 (Or.inl ⟨?hwzbma2, ?hyzbma2⟩) (by assumption) ?hrzbma2
         case hizbma2 => (simp only [List.getElem?_toArray, List.getElem?_cons_succ, List.getElem?_cons_zero]; rfl)
         case hqzbma2 => exact fun _ _ _ h => h
         case hwzbma2 => rfl
         case hyzbma2 => (intro w0 hSw; (try dsimp only at hSw); go_simp; try with_reducible rfl)
         (try simp only [Act.put, List.setIfInBounds_toArray, List.set_cons_zero, List.set_cons_succ])
         refine' wpAnyH_take (i := 3) ?hizbma3 (by kernel_rfl) (by kernel_rfl) (by kernel_rfl) ?hqzbma3 (Or.inl ⟨?hwzbma3, ?hyzbma3⟩) (by assumption) ?hrzbma3
         case hizbma3 => (simp only [List.getElem?_toArray, List.getElem?_cons_succ, List.getElem?_cons_zero]; rfl)
         case hqzbma3 => exact fun _ _ _ h => h
         case hwzbma3 => rfl
         case hyzbma3 => (intro w0 hSw; (try dsimp only at hSw); go_simp; try with_reducible rfl)
         (try simp only [Act.put, List.setIfInBounds_toArray, List.set_cons_zero, List.set_cons_succ])
         refine' wpAnyH_take (i := 4) ?hizbma4 (by kernel_rfl) (by kernel_rfl) (by kernel_rfl) ?hqzbma4 (Or.inl ⟨?hwzbma4, ?hyzbma4⟩) (by assumption) ?hrzbma4
         case hizbma4 => (simp only [List.getElem?_toArray, List.getElem?_cons_succ, List.getElem?_cons_zero]; rfl)
         case hqzbma4 => exact fun _ _ _ h => h
         case hwzbma4 => rfl
         case hyzbma4 => exact fun w0 hSw => run_exec_load rfl rfl (HL.out w0 hSw)
         (try simp only [Act.put, List.setIfInBounds_toArray, List.set_cons_zero, List.set_cons_succ])
         refine' wpAnyH_take (i := 5) ?hizbma5 (by kernel_rfl) (by kernel_rfl) (by kernel_rfl) ?hqzbma5 (Or.inl ⟨?hwzbma5, ?hyzbma5⟩) (by assumption) ?hrzbma5
         case hizbma5 => (simp only [List.getElem?_toArray, List.getElem?_cons_succ, List.getElem?_cons_zero]; rfl)
         case hqzbma5 => exact fun _ _ _ h => h
         case hwzbma5 => rfl
         case hyzbma5 => (intro w0 hSw; (try dsimp only at hSw); go_simp; try with_reducible rfl)
         (try simp only [Act.put, List.setIfInBounds_toArray, List.set_cons_zero, List.set_cons_succ])
         refine' wpAnyH_take (i := 6) ?hizbma6 (by kernel_rfl) (by kernel_rfl) (by kernel_rfl) ?hqzbma6 (Or.inl ⟨?hwzbma6, ?hyzbma6⟩) (by assumption) ?hrzbma6
         case hizbma6 => (simp only [List.getElem?_toArray, List.getElem?_cons_succ, List.getElem?_cons_zero]; rfl)
         case hqzbma6 => exact fun _ _ _ h => h
         case hwzbma6 => rfl
         case hyzbma6 => (intro w0 hSw; (try dsimp only at hSw); go_simp; try with_reducible rfl)
         (try simp only [Act.put, List.setIfInBounds_toArray, List.set_cons_zero, List.set_cons_succ])
         refine' wpAnyH_take (i := 7) ?hizbma7 (by kernel_rfl) (by kernel_rfl) (by kernel_rfl) ?hqzbma7 (Or.inl ⟨?hwzbma7, ?hyzbma7⟩) (by assumption) ?hrzbma7
         case hizbma7 => (simp only [List.getElem?_toArray, List.getElem?_cons_succ, List.getElem?_cons_zero]; rfl)
         case hqzbma7 => exact fun _ _ _ h => h
         case hwzbma7 => rfl
         case hyzbma7 => exact fun w0 hSw => exec_hi rfl rfl rfl (HSL.out w0)
         (try simp only [Act.put, List.setIfInBounds_toArray, List.set_cons_zero, List.set_cons_succ])
         refine wpAnyH_ready (rs := [8]) (by kernel_rfl) (by simp) ?_
         refine' AllReadyH.cons ?hizbma8 (fun K hK => ?hrzbma8) AllReadyH.nil
         case hizbma8 => (simp only [List.getElem?_toArray, List.getElem?_cons_succ, List.getElem?_cons_zero]; rfl)
         go_simp
         (refine (HUC.out _ hHeld).mono ?_; rintro e w8 ⟨o, rfl, ho, hb8⟩; obtain ⟨oa, oc, rfl⟩ := ho.form; rw [← HUL.out]; have HB8 := Lib.hid hb8; clear hb8 ho)
         refine hK.out _ _ ?_ (fun hHeld => ?_)
         ·
          exact hHeld.next HI.out HB8.out
         clear hK K
         (try simp only [Act.put, List.setIfInBounds_toArray, List.set_cons_zero, List.set_cons_succ])
         refine' wpAnyH_take (i := 9) ?hizbma9 (by kernel_rfl) (by kernel_rfl) (by kernel_rfl) ?hqzbma9 (Or.inl ⟨?hwzbma9, ?hyzbma9⟩) (by assumption) ?hrzbma9
         case hizbma9 => (simp only [List.getElem?_toArray, List.getElem?_cons_succ, List.getElem?_cons_zero]; rfl)
         case hqzbma9 => exact fun _ _ _ h => h
         case hwzbma9 => rfl
         case hyzbma9 => (intro w0 hSw; (try dsimp only at hSw); go_simp; try with_reducible rfl)
         (try simp only [Act.put, List.setIfInBounds_toArray, List.set_cons_zero, List.set_cons_succ])
         refine' wpAnyH_take (i := 10) ?hizbma10 (by kernel_rfl) (by kernel_rfl) (by kernel_rfl) ?hqzbma10 (Or.inl ⟨?hwzbma10, ?hyzbma10⟩) (by assumption) ?hrzbma10
         case hizbma10 => (simp only [List.getElem?_toArray, List.getElem?_cons_succ, List.getElem?_cons_zero]; rfl)
         case hqzbma10 => exact fun _ _ _ h => h
         case hwzbma10 => rfl
         case hyzbma10 => (intro w0 hSw; (try dsimp only at hSw); go_simp; try with_reducible rfl)
         (try simp only [Act.put, List.setIfInBounds_toArray, List.set_cons_zero, List.set_cons_succ])
         refine' wpAnyH_take (i := 11) ?hizbma11 (by kernel_rfl) (by kernel_rfl) (by kernel_rfl) ?hqzbma11 (Or.inl ⟨?hwzbma11, ?hyzbma11⟩) (by assumption) ?hrzbma11
         case hizbma11 => (simp only [List.getElem?_toArray, List.getElem?_cons_succ, List.getElem?_cons_zero]; rfl)
         case hqzbma11 => exact fun _ _ _ h => h
         case hwzbma11 => rfl
         case hyzbma11 => (intro w0 hSw; (try dsimp only at hSw); go_simp; try with_reducible rfl)
         (try simp only [Act.put, List.setIfInBounds_toArray, List.set_cons_zero, List.set_cons_succ])
         refine' wpAnyH_take (i := 12) ?hizbma12 (by kernel_rfl) (by kernel_rfl) (by kernel_rfl) ?hqzbma12 (Or.inl ⟨?hwzbma12, ?hyzbma12⟩) (by assumption) ?hrzbma12
         case hizbma12 => (simp only [List.getElem?_toArray, List.getElem?_cons_succ, List.getElem?_cons_zero]; rfl)
         case hqzbma12 => exact fun _ _ _ h => h
         case hwzbma12 => rfl
         case hyzbma12 => (intro w0 hSw; (try dsimp only at hSw); go_simp; try with_reducible rfl)
         (try simp only [Act.put, List.setIfInBounds_toArray, List.set_cons_zero, List.set_cons_succ])
         refine' wpAnyH_take (i := 13) ?hizbma13 (by kernel_rfl) (by kernel_rfl) (by kernel_rfl) ?hqzbma13 (Or.inl ⟨?hwzbma13, ?hyzbma13⟩) (by assumption) ?hrzbma13
         case hizbma13 => (simp only [List.getElem?_toArray, List.getElem?_cons_succ, List.getElem?_cons_zero]; rfl)
         case hqzbma13 => exact fun _ _ _ h => h
         case hwzbma13 => rfl
         case hyzbma13 => (intro w0 hSw; (try dsimp only at hSw); go_simp; try with_reducible rfl)
         (try simp only [Act.put, List.setIfInBounds_toArray, List.set_cons_zero, List.set_cons_succ])
         refine' wpAnyH_take (i := 14) ?hizbma14 (by kernel_rfl) (by kernel_rfl) (by kernel_rfl) ?hqzbma14 (Or.inl ⟨?hwzbma14, ?hyzbma14⟩) (by assumption) ?hrzbma14
         case hizbma14 => (simp only [List.getElem?_toArray, List.getElem?_cons_succ, List.getElem?_cons_zero]; rfl)
         case hqzbma14 => exact fun _ _ _ h => h
         case hwzbma14 => rfl
         case hyzbma14 => (intro w0 hSw; (try dsimp only at hSw); go_simp; try with_reducible rfl)
         (try simp only [Act.put, List.setIfInBounds_toArray, List.set_cons_zero, List.set_cons_succ])
         refine' wpAnyH_take (i := 15) ?hizbma15 (by kernel_rfl) (by kernel_rfl) (by kernel_rfl) ?hqzbma15 (Or.inl ⟨?hwzbma15, ?hyzbma15⟩) (by assumption) ?hrzbma15
         case hizbma15 => (simp only [List.getElem?_toArray, List.getElem?_cons_succ, List.getElem?_cons_zero]; rfl)
         case hqzbma15 => exact fun _ _ _ h => h
         case hwzbma15 => rfl
         case hyzbma15 => (intro w0 hSw; (try dsimp only at hSw); go_simp; try with_reducible rfl)
         (try simp only [Act.put, List.setIfInBounds_toArray, List.set_cons_zero, List.set_cons_succ])
         refine' wpAnyH_take (i := 16) ?hizbma16 (by kernel_rfl) (by kernel_rfl) (by kernel_rfl) ?hqzbma16 (Or.inl ⟨?hwzbma16, ?hyzbma16⟩) (by assumption) ?hrzbma16
         case hizbma16 => (simp only [List.getElem?_toArray, List.getElem?_cons_succ, List.getElem?_cons_zero]; rfl)
         case hqzbma16 => exact fun _ _ _ h => h
         case hwzbma16 => rfl
         case hyzbma16 => (intro w0 hSw; (try dsimp only at hSw); go_simp; try with_reducible rfl)
         (try simp only [Act.put, List.setIfInBounds_toArray, List.set_cons_zero, List.set_cons_succ])
         refine' wpAnyH_take (i := 17) ?hizbma17 (by kernel_rfl) (by kernel_rfl) (by kernel_rfl) ?hqzbma17 (Or.inl ⟨?hwzbma17, ?hyzbma17⟩) (by assumption) ?hrzbma17
         case hizbma17 => (simp only [List.getElem?_toArray, List.getElem?_cons_succ, List.getElem?_cons_zero]; rfl)
         case hqzbma17 => exact fun _ _ _ h => h
         case hwzbma17 => rfl
         case hyzbma17 => (intro w0 hSw; (try dsimp only at hSw); go_simp; try with_reducible rfl)
         (try simp only [Act.put, List.setIfInBounds_toArray, List.set_cons_zero, List.set_cons_succ])
         refine' wpAnyH_take (i := 18) ?hizbma18 (by kernel_rfl) (by kernel_rfl) (by kernel_rfl) ?hqzbma18 (Or.inl ⟨?hwzbma18, ?hyzbma18⟩) (by assumption) ?hrzbma18
         case hizbma18 => (simp only [List.getElem?_toArray, List.getElem?_cons_succ, List.getElem?_cons_zero]; rfl)
         case hqzbma18 => exact fun _ _ _ h => h
         case hwzbma18 => rfl
         case hyzbma18 => (intro w0 hSw; (try dsimp only at hSw); go_simp; try with_reducible rfl)
         (try simp only [Act.put, List.setIfInBounds_toArray, List.set_cons_zero, List.set_cons_succ])
         refine' wpAnyH_take (i := 19) ?hizbma19 (by kernel_rfl) (by kernel_rfl) (by kernel_rfl) ?hqzbma19 (Or.inl ⟨?hwzbma19, ?hyzbma19⟩) (by assumption) ?hrzbma19
         case hizbma19 => (simp only [List.getElem?_toArray, List.getElem?_cons_succ, List.getElem?_cons_zero]; rfl)
         case hqzbma19 => exact fun _ _ _ h => h
         case hwzbma19 => rfl
         case hyzbma19 => (intro w0 hSw; (try dsimp only at hSw); go_simp; try with_reducible rfl)
         (try simp only [Act.put, List.setIfInBounds_toArray, List.set_cons_zero, List.set_cons_succ])
         refine' wpAnyH_take (i := 20) ?hizbma20 (by kernel_rfl) (by kernel_rfl) (by kernel_rfl) ?hqzbma20 (Or.inl ⟨?hwzbma20, ?hyzbma20⟩) (by assumption) ?hrzbma20
         case hizbma20 => (simp only [List.getElem?_toArray, List.getElem?_cons_succ, List.getElem?_cons_zero]; rfl)
         case hqzbma20 => exact fun _ _ _ h => h
         case hwzbma20 => rfl
         case hyzbma20 => (intro w0 hSw; (try dsimp only at hSw); go_simp; try with_reducible rfl)
         (try simp only [Act.put, List.setIfInBounds_toArray, List.set_cons_zero, List.set_cons_succ])
         refine' wpAnyH_take (i := 21) ?hizbma21 (by kernel_rfl) (by kernel_rfl) (by kernel_rfl) ?hqzbma21 (Or.inl ⟨?hwzbma21, ?hyzbma21⟩) (by assumption) ?hrzbma21
         case hizbma21 => (simp only [List.getElem?_toArray, List.getElem?_cons_succ, List.getElem?_cons_zero]; rfl)
         case hqzbma21 => exact fun _ _ _ h => h
         case hwzbma21 => rfl
         case hyzbma21 => (intro w0 hSw; (try dsimp only at hSw); go_simp; try with_reducible rfl)
         (try simp only [Act.put, List.setIfInBounds_toArray, List.set_cons_zero, List.set_cons_succ])
         refine wpAnyH_done (by kernel_rfl) ?_ _
         clear hHeld
         go_wp2_with fail
         go_roundw
         case rel => exact ⟨false, k + 1, hkt, rfl, by push_cast; rfl, fun h => (by cases h), (HB7.out.trans (((Below.refl _ w6).drew).mono HB7.out.size)).trans (HB8.out.mono (Nat.le_trans HB7.out.size (Nat.le_refl _)))⟩
         case measure => simp [intOf]; omega
      ·
       obtain rfl : k = i := by omega
       have hsepk := HC.out.own.1
       obtain ⟨kv2, w9, hrun, ho9, ht9, -⟩ := push_hd hm.c.own G uG HCOM.out hm.p (fun hne b off n c e hkk => absurd (HNW.out hne b off n c e) (by have := hsepk.lt hkk; have := HS.out; have := HSR.out; omega)) (by have := hm.c.len; omega) (fun b hb => (show w.heap.size ≤ b by have := hm.c.below.size; omega)) 27
       have hlg := run_load_hd hm.b HCOM.out
       have hbl9 : Below w.heap.size w w9 := hm.c.below.trans (ht9.below fun b hb => by
        rcases hb with hb | hb
        ·
         exact hm.c.own.1.2.2 b hb
        ·
         have := hm.c.below.size; omega)
       have hgood : ∀ p ∈ P ++ [(G, uG)], checkH p.1 = 0 ∧ p.1.height ≤ ((k + 1 : Nat) : Int) ∧ p.1.topic = [99, 97] := fun p hp => (List.mem_append.1 hp).elim (fun h => by
        have := hm.c.good p h
        exact ⟨this.1, by have := this.2.1; push_cast; omega, this.2.2⟩) (fun h => by rw [List.mem_singleton.1 h]; exact ⟨HG0.out, HGH.out, HGT.out⟩)
       have hlen : (P ++ [(G, uG)]).length = k + 1 := by rw [List.length_append, List.length_singleton, hm.c.len]
       have ht9' : T w9 := HI.out.next HT0.out hbl9
       have HC9 : Hid (ChS T w kv2 (P ++ [(G, uG)]) (k + 1) w9) := Lib.hid ⟨ht9', ho9, hgood, hlen, hbl9⟩
       clear hft hb hm hsepk ho9 ht9 hbl9 hgood hlen ht9'
       cases fl with
       | true =>
        have HTW : Hid (Twin (hs (P ++ [(G, uG)]))) := Lib.hid ((HFT.out rfl).mono fun a ha => by unfold hs at ha ⊢; rw [List.map_append]; exact List.mem_append_left _ ha)
        go_wp2_with (first
         | ((with_reducible refine step_load (t := 26) (x := .tmp 10) (p := ?lpzbmx1) (v := ?lvzbmx1) ?lgzbmx1 ?lozbmx1 ?lxzbmx1 ?lrzbmx1 ?lhzbmx1); (case lgzbmx1 => rfl); (case lozbmx1 => rfl); (case lxzbmx1 => rfl); (case lrzbmx1 => exact hlg))
         | ((with_reducible refine hds.step_build1h (x := .tmp 109) (h := ?bhzbmx2) (v := ?bvzbmx2) ?bgzbmx2 ?bozbmx2 ?bxzbmx2 ?blzbmx2 ?bkzbmx2); (case bgzbmx2 => rfl); (case bozbmx2 => rfl); (case bxzbmx2 => rfl); (case blzbmx2 => exact HCOM.out))
         | ((with_reducible refine step_append (s := .tmp 108) (x := .tmp 110) (t := 27) (vs := ?aszbmx3) (vx := ?axzbmx3) (v' := ?avzbmx3) (w' := ?awzbmx3) ?agzbmx3 ?aozbmx3 ?apzbmx3 ?aqzbmx3 ?arzbmx3 ?ahzbmx3); (case agzbmx3 => rfl); (case aozbmx3 => rfl); (case apzbmx3 => rfl); (case aqzbmx3 => rfl); (case arzbmx3 => exact hrun)))
        refine bodyPost_ret (results_tmp2 rfl _ _ _) rfl ?_
        exact ⟨_, P ++ [(G, uG)], false, rfl, HC9.out.hsv (by omega), HC9.out.few, by have := HC9.out.len; omega, fun _ => HTW.out, HC9.out.below⟩
       | false =>
        go_wp2_with (first
         | ((with_reducible refine step_load (t := 26) (x := .tmp 10) (p := ?lpzbmy1) (v := ?lvzbmy1) ?lgzbmy1 ?lozbmy1 ?lxzbmy1 ?lrzbmy1 ?lhzbmy1); (case lgzbmy1 => rfl); (case lozbmy1 => rfl); (case lxzbmy1 => rfl); (case lrzbmy1 => exact hlg))
         | ((with_reducible refine hds.step_build1h (x := .tmp 109) (h := ?bhzbmy2) (v := ?bvzbmy2) ?bgzbmy2 ?bozbmy2 ?bxzbmy2 ?blzbmy2 ?bkzbmy2); (case bgzbmy2 => rfl); (case bozbmy2 => rfl); (case bxzbmy2 => rfl); (case blzbmy2 => exact HCOM.out))
         | ((with_reducible refine step_append (s := .tmp 108) (x := .tmp 110) (t := 27) (vs := ?aszbmy3) (vx := ?axzbmy3) (v' := ?avzbmy3) (w' := ?awzbmy3) ?agzbmy3 ?aozbmy3 ?apzbmy3 ?aqzbmy3 ?arzbmy3 ?ahzbmy3); (case agzbmy3 => rfl); (case aozbmy3 => rfl); (case apzbmy3 => rfl); (case aqzbmy3 => rfl); (case arzbmy3 => exact hrun)))
        go_roundw
        case rel => exact ⟨P ++ [(G, uG)], k + 1, hlt.1, hlt.2, by push_cast; rfl, HC9.out⟩
        case measure => simp [intOf]; omega
    ·
     have hne : (vK != 0) = true := bne_iff_ne.2 hvz
     have HTK := Lib.hid (HVT.out hvz)
     clear hvz
     go_upto_region 13 with (first
      | ((with_reducible refine step_load_w (t := 26) (x := .tmp 10) (p := ?lpzbk) (v := ?lvzbk) ?lgzbk ?lozbk ?lxzbk ?lrzbk ?lhzbk); (case lozbk => rfl); (case lgzbk => rfl); (case lxzbk => rfl); (case lrzbk => exact hlg))
      | (go_at_call 8; (with_reducible refine HV4.out.mono ?_); rintro e w5 ⟨rfl, hb5⟩; have HM5 := Lib.hid (HM4.out.next HI.out hb5); clear hb5 HV4))
     clear hlg HM4
     clear HVT
     obtain ⟨w5, hw5⟩ : ∃ u, u = w5 := ⟨_, rfl⟩
     rw [← hw5] at HM5 ⊢
     have HM6 := HM5
     clear hw5
     go_wp2_with fail
     go_loopw [12, 13, 14] (fun bv jv _ wr => ∃ (fl : Bool) (k : Nat), k ≤ i ∧ bv = .bool fl ∧ jv = .int .i64 (k : Int) ∧ (fl = true → Twin (hs P)) ∧ Below w5.heap.size w5 wr) (fun _ jv _ _ => i - (intOf jv).toNat)
     case atStart => exact ⟨true, 0, Nat.zero_le _, rfl, rfl, fun _ => HTK.out, Below.refl _ _⟩
     case round =>
      clear HM6
      obtain ⟨fl, k, hki, rfl, rfl, hft, hb⟩ := hrel
      have k0 : (0 : Int) ≤ (k : Int) := Int.natCast_nonneg _
      have HFT := Lib.hid hft
      have HB := Lib.hid hb
      have hm := HM5.out.next HI.out hb
      by_cases hkt : k < i
      ·
       have kI : (k : Int) < (i : Int) := by omega
       have HM := Lib.hid hm
       have hks := slice_hi_h (hm.c.hsv hi10) k (Nat.le_of_lt hkt) wr
       have HSL : Hid (∀ u : World, _) := Lib.hid (fun u => (slice_hi_h (hm.c.hsv hi10) k (Nat.le_of_lt hkt) u).1)
       have HV : Hid (∀ u, MdS T w (.slice ka i kc) P i g G uG u → HsV u (.slice ka k kc) (P.take k)) := Lib.hid fun u h => (slice_hi_h (h.c.hsv hi10) k (Nat.le_of_lt hkt) u).2
       have htl : (P.take k).length ≤ 1000 := by rw [List.length_take, hm.c.len]; omega
       obtain ⟨vk, hvk⟩ : ∃ x, x = verdictL G (hs (P.take k)) := ⟨_, rfl⟩
       obtain ⟨uk, huk⟩ : ∃ x, x = unknownR G (hs (P.take k)) := ⟨_, rfl⟩
       have HVC := Lib.hid (fun u (h : MdS T w (.slice ka i kc) P i g G uG u) => HI.out.verdict G uG (.slice ka k kc) (P.take k) u h.c.t HCOM.out h.p HG4.out HGT2.out (HV.out u h) (h.c.few.take k) htl)
       have HUC := Lib.hid (fun u (h : MdS T w (.slice ka i kc) P i g G uG u) => HI.out.unknown G uG (.slice ka k kc) (P.take k) u h.c.t HCOM.out h.p HG4.out (HV.out u h) (h.c.few.take k) htl)
       rw [← hvk] at HVC
       rw [← huk] at HUC
       have HL := Lib.hid (fun u (h : MdS T w (.slice ka i kc) P i g G uG u) => run_load_hd h.b HCOM.out)
       have HA : Hid (uk ≠ [] → vk = 11) := Lib.hid fun h => by rw [hvk]; exact verdict_no HG0.out (by rw [← huk]; exact h)
       have HC : Hid (uk = [] → vk ≠ 0 → Twin (hs P)) := Lib.hid fun h hne => by
        by_cases ht : Twin (hs P)
        ·
         exact ht
        ·
         have := HVM.out (hs (P.take k)) (take_hs P k) ht
         rw [← hvk, ← huk, if_pos h] at this
         exact absurd this hne
       clear hft hb hm hks htl hvk huk
       go_upto_region 16 with fail
       refine wp_region_held_drew (S := MdS T w (.slice ka i kc) P i g G uG) (by kernel_rfl) ?_ (fun hHeld => ?_)
       ·
        exact HM.out.next HI.out ((Below.refl _ _).drew)
       refine' wpAnyH_take (i := 0) ?hizbnr0 (by kernel_rfl) (by kernel_rfl) (by kernel_rfl) ?hqzbnr0 (Or.inl ⟨?hwzbnr0, ?hyzbnr0⟩) (by assumption) ?hrzbnr0
       case hizbnr0 => (simp only [List.getElem?_toArray, List.getElem?_cons_zero]; rfl)
       case hqzbnr0 => exact fun _ _ _ h => h
       case hwzbnr0 => rfl
       case hyzbnr0 => exact fun w0 hSw => run_exec_load rfl rfl (HL.out w0 hSw)
       (try simp only [Act.put, List.setIfInBounds_toArray, List.set_cons_zero, List.set_cons_succ])
       refine' wpAnyH_take (i := 1) ?hizbnr1 (by kernel_rfl) (by kernel_rfl) (by kernel_rfl) ?hqzbnr1 (Or.inl ⟨?hwzbnr1, ?hyzbnr1⟩) (by assumption) ?hrzbnr1
       case hizbnr1 => (simp only [List.getElem?_toArray, List.getElem?_cons_succ, List.getElem?_cons_zero]; rfl)
       case hqzbnr1 => exact fun _ _ _ h => h
       case hwzbnr1 => rfl
       case hyzbnr1 => (intro w0 hSw; (try dsimp only at hSw); go_simp; try with_reducible rfl)
       (try simp only [Act.put, List.setIfInBounds_toArray, List.set_cons_zero, List.set_cons_succ])
       refine' wpAnyH_take (i := 2) ?hizbnr2 (by kernel_rfl) (by kernel_rfl) (by kernel_rfl) ?hqzbnr2 (Or.inl ⟨?hwzbnr2, ?hyzbnr2⟩) (by assumption) ?hrzbnr2
       case hizbnr2 => (simp only [List.getElem?_toArray, List.getElem?_cons_succ, List.getElem?_cons_zero]; rfl)
       case hqzbnr2 => exact fun _ _ _ h => h
       case hwzbnr2 => rfl
       case hyzbnr2 => (intro w0 hSw; (try dsimp only at hSw); go_simp; try with_reducible rfl)
       (try simp only [Act.put, List.setIfInBounds_toArray, List.set_cons_zero, List.set_cons_succ])
       refine' wpAnyH_take (i := 3) ?hizbnr3 (by kernel_rfl) (by kernel_rfl) (by kernel_rfl) ?hqzbnr3 (Or.inl ⟨?hwzbnr3, ?hyzbnr3⟩) (by assumption) ?hrzbnr3
       case hizbnr3 => (simp only [List.getElem?_toArray, List.getElem?_cons_succ, List.getElem?_cons_zero]; rfl)
       case hqzbnr3 => exact fun _ _ _ h => h
       case hwzbnr3 => rfl
       case hyzbnr3 => exact fun w0 hSw => exec_hi rfl rfl rfl (HSL.out w0)
       (try simp only [Act.put, List.setIfInBounds_toArray, List.set_cons_zero, List.set_cons_succ])
       refine wpAnyH_ready (rs := [4]) (by kernel_rfl) (by simp) ?_
       refine' AllReadyH.cons ?hizbnr4 (fun K hK => ?hrzbnr4) AllReadyH.nil
       case hizbnr4 => (simp only [List.getElem?_toArray, List.getElem?_cons_succ, List.getElem?_cons_zero]; rfl)
       go_simp
       (refine (HVC.out _ hHeld).mono ?_; rintro e w6 ⟨rfl, hb6⟩; have HB6 := Lib.hid hb6; clear hb6)
       refine hK.out _ _ ?_ (fun hHeld => ?_)
       ·
        exact hHeld.next HI.out HB6.out
       clear hK K
       (try simp only [Act.put, List.setIfInBounds_toArray, List.set_cons_zero, List.set_cons_succ])
       refine' wpAnyH_take (i := 5) ?hizbnr5 (by kernel_rfl) (by kernel_rfl) (by kernel_rfl) ?hqzbnr5 (Or.inl ⟨?hwzbnr5, ?hyzbnr5⟩) (by assumption) ?hrzbnr5
       case hizbnr5 => (simp only [List.getElem?_toArray, List.getElem?_cons_succ, List.getElem?_cons_zero]; rfl)
       case hqzbnr5 => exact fun _ _ _ h => h
       case hwzbnr5 => rfl
       case hyzbnr5 => (intro w0 hSw; (try dsimp only at hSw); go_simp; try with_reducible rfl)
       (try simp only [Act.put, List.setIfInBounds_toArray, List.set_cons_zero, List.set_cons_succ])
       refine wpAnyH_done (by kernel_rfl) ?_ _
       have HM7 := Lib.hid hHeld
       have HB7 := Lib.hid (HB.out.trans ((((Below.refl _ wr).drew).trans HB6.out).mono HB.out.size))
       clear hHeld HM
       go_upto_region 17 with fail
       cases fl with
       | true =>
        refine wp_region_held_drew (S := MdS T w (.slice ka i kc) P i g G uG) (by kernel_rfl) ?_ (fun hHeld => ?_)
        ·
         exact HM7.out.next HI.out ((Below.refl _ _).drew)
        refine' wpAnyH_take (i := 0) ?hizbnt0 (by kernel_rfl) (by kernel_rfl) (by kernel_rfl) ?hqzbnt0 (Or.inl ⟨?hwzbnt0, ?hyzbnt0⟩) (by assumption) ?hrzbnt0
        case hizbnt0 => (simp only [List.getElem?_toArray, List.getElem?_cons_zero]; rfl)
        case hqzbnt0 => exact fun _ _ _ h => h
        case hwzbnt0 => rfl
        case hyzbnt0 => (intro w0 hSw; (try dsimp only at hSw); go_simp; try with_reducible rfl)
        (try simp only [Act.put, List.setIfInBounds_toArray, List.set_cons_zero, List.set_cons_succ])
        refine' wpAnyH_take (i := 1) ?hizbnt1 (by kernel_rfl) (by kernel_rfl) (by kernel_rfl) ?hqzbnt1 (Or.inl ⟨?hwzbnt1, ?hyzbnt1⟩) (by assumption) ?hrzbnt1
        case hizbnt1 => (simp only [List.getElem?_toArray, List.getElem?_cons_succ, List.getElem?_cons_zero]; rfl)
        case hqzbnt1 => exact fun _ _ _ h => h
        case hwzbnt1 => rfl
        case hyzbnt1 => (intro w0 hSw; (try dsimp only at hSw); go_simp; try with_reducible rfl)
        (try simp only [Act.put, List.setIfInBounds_toArray, List.set_cons_zero, List.set_cons_succ])
        refine' wpAnyH_take (i := 2) (v := undef) ?hizbnt2 (by kernel_rfl) (by kernel_rfl) (by kernel_rfl) ?hqzbnt2 (Or.inr ⟨?hwzbnt2, rfl⟩) (by assumption) ?hrzbnt2
        case hizbnt2 => (simp only [List.getElem?_toArray, List.getElem?_cons_succ, List.getElem?_cons_zero]; rfl)
        case hqzbnt2 => exact fun _ _ _ h => h
        case hwzbnt2 => rfl
        (try simp only [Act.put, List.setIfInBounds_toArray, List.set_cons_zero, List.set_cons_succ])
        refine' wpAnyH_take (i := 3) (v := undef) ?hizbnt3 (by kernel_rfl) (by kernel_rfl) (by kernel_rfl) ?hqzbnt3 (Or.inr ⟨?hwzbnt3, rfl⟩) (by assumption) ?hrzbnt3
        case hizbnt3 => (simp only [List.getElem?_toArray, List.getElem?_cons_succ, List.getElem?_cons_zero]; rfl)
        case hqzbnt3 => exact fun _ _ _ h => h
        case hwzbnt3 => rfl
        (try simp only [Act.put, List.setIfInBounds_toArray, List.set_cons_zero, List.set_cons_succ])
        refine' wpAnyH_take (i := 4) (v := undef) ?hizbnt4 (by kernel_rfl) (by kernel_rfl) (by kernel_rfl) ?hqzbnt4 (Or.inr ⟨?hwzbnt4, rfl⟩) (by assumption) ?hrzbnt4
        case hizbnt4 => (simp only [List.getElem?_toArray, List.getElem?_cons_succ, List.getElem?_cons_zero]; rfl)
        case hqzbnt4 => exact fun _ _ _ h => h
        case hwzbnt4 => rfl
        (try simp only [Act.put, List.setIfInBounds_toArray, List.set_cons_zero, List.set_cons_succ])
        refine' wpAnyH_take (i := 5) (v := undef) ?hizbnt5 (by kernel_rfl) (by kernel_rfl) (by kernel_rfl) ?hqzbnt5 (Or.inr ⟨?hwzbnt5, rfl⟩) (by assumption) ?hrzbnt5
        case hizbnt5 => (simp only [List.getElem?_toArray, List.getElem?_cons_succ, List.getElem?_cons_zero]; rfl)
        case hqzbnt5 => exact fun _ _ _ h => h
        case hwzbnt5 => rfl
        (try simp only [Act.put, List.setIfInBounds_toArray, List.set_cons_zero, List.set_cons_succ])
        refine' wpAnyH_take (i := 6) (v := undef) ?hizbnt6 (by kernel_rfl) (by kernel_rfl) (by kernel_rfl) ?hqzbnt6 (Or.inr ⟨?hwzbnt6, rfl⟩) (by assumption) ?hrzbnt6
        case hizbnt6 => (simp only [List.getElem?_toArray, List.getElem?_cons_succ, List.getElem?_cons_zero]; rfl)
        case hqzbnt6 => exact fun _ _ _ h => h
        case hwzbnt6 => rfl
        (try simp only [Act.put, List.setIfInBounds_toArray, List.set_cons_zero, List.set_cons_succ])
        refine' wpAnyH_take (i := 7) (v := undef) ?hizbnt7 (by kernel_rfl) (by kernel_rfl) (by kernel_rfl) ?hqzbnt7 (Or.inr ⟨?hwzbnt7, rfl⟩) (by assumption) ?hrzbnt7
        case hizbnt7 => (simp only [List.getElem?_toArray, List.getElem?_cons_succ, List.getElem?_cons_zero]; rfl)
        case hqzbnt7 => exact fun _ _ _ h => h
        case hwzbnt7 => rfl
        (try simp only [Act.put, List.setIfInBounds_toArray, List.set_cons_zero, List.set_cons_succ])
        refine' wpAnyH_take (i := 8) (v := undef) ?hizbnt8 (by kernel_rfl) (by kernel_rfl) (by kernel_rfl) ?hqzbnt8 (Or.inr ⟨?hwzbnt8, rfl⟩) (by assumption) ?hrzbnt8
        case hizbnt8 => (simp only [List.getElem?_toArray, List.getElem?_cons_succ, List.getElem?_cons_zero]; rfl)
        case hqzbnt8 => exact fun _ _ _ h => h
        case hwzbnt8 => rfl
        (try simp only [Act.put, List.setIfInBounds_toArray, List.set_cons_zero, List.set_cons_succ])
        refine' wpAnyH_take (i := 9) (v := undef) ?hizbnt9 (by kernel_rfl) (by kernel_rfl) (by kernel_rfl) ?hqzbnt9 (Or.inr ⟨?hwzbnt9, rfl⟩) (by assumption) ?hrzbnt9
        case hizbnt9 => (simp only [List.getElem?_toArray, List.getElem?_cons_succ, List.getElem?_cons_zero]; rfl)
        case hqzbnt9 => exact fun _ _ _ h => h
        case hwzbnt9 => rfl
        (try simp only [Act.put, List.setIfInBounds_toArray, List.set_cons_zero, List.set_cons_succ])
        refine' wpAnyH_take (i := 10) (v := undef) ?hizbnt10 (by kernel_rfl) (by kernel_rfl) (by kernel_rfl) ?hqzbnt10 (Or.inr ⟨?hwzbnt10, rfl⟩) (by assumption) ?hrzbnt10
        case hizbnt10 => (simp only [List.getElem?_toArray, List.getElem?_cons_succ, List.getElem?_cons_zero]; rfl)
        case hqzbnt10 => exact fun _ _ _ h => h
        case hwzbnt10 => rfl
        (try simp only [Act.put, List.setIfInBounds_toArray, List.set_cons_zero, List.set_cons_succ])
        refine' wpAnyH_take (i := 11) (v := undef) ?hizbnt11 (by kernel_rfl) (by kernel_rfl) (by kernel_rfl) ?hqzbnt11 (Or.inr ⟨?hwzbnt11, rfl⟩) (by assumption) ?hrzbnt11
        case hizbnt11 => (simp only [List.getElem?_toArray, List.getElem?_cons_succ, List.getElem?_cons_zero]; rfl)
        case hqzbnt11 => exact fun _ _ _ h => h
        case hwzbnt11 => rfl
        (try simp only [Act.put, List.setIfInBounds_toArray, List.set_cons_zero, List.set_cons_succ])
        refine' wpAnyH_take (i := 12) ?hizbnt12 (by kernel_rfl) (by kernel_rfl) (by kernel_rfl) ?hqzbnt12 (Or.inl ⟨?hwzbnt12, ?hyzbnt12⟩) (by assumption) ?hrzbnt12
        case hizbnt12 => (simp only [List.getElem?_toArray, List.getElem?_cons_succ, List.getElem?_cons_zero]; rfl)
        case hqzbnt12 => exact fun _ _ _ h => h
        case hwzbnt12 => rfl
        case hyzbnt12 => (intro w0 hSw; (try dsimp only at hSw); go_simp; try with_reducible rfl)
        (try simp only [Act.put, List.setIfInBounds_toArray, List.set_cons_zero, List.set_cons_succ])
        refine' wpAnyH_take (i := 13) ?hizbnt13 (by kernel_rfl) (by kernel_rfl) (by kernel_rfl) ?hqzbnt13 (Or.inl ⟨?hwzbnt13, ?hyzbnt13⟩) (by assumption) ?hrzbnt13
        case hizbnt13 => (simp only [List.getElem?_toArray, List.getElem?_cons_succ, List.getElem?_cons_zero]; rfl)
        case hqzbnt13 => exact fun _ _ _ h => h
        case hwzbnt13 => rfl
        case hyzbnt13 => (intro w0 hSw; (try dsimp only at hSw); go_simp; try with_reducible rfl)
        (try simp only [Act.put, List.setIfInBounds_toArray, List.set_cons_zero, List.set_cons_succ])
        refine' wpAnyH_take (i := 14) (v := undef) ?hizbnt14 (by kernel_rfl) (by kernel_rfl) (by kernel_rfl) ?hqzbnt14 (Or.inr ⟨?hwzbnt14, rfl⟩) (by assumption) ?hrzbnt14
        case hizbnt14 => (simp only [List.getElem?_toArray, List.getElem?_cons_succ, List.getElem?_cons_zero]; rfl)
        case hqzbnt14 => exact fun _ _ _ h => h
        case hwzbnt14 => rfl
        (try simp only [Act.put, List.setIfInBounds_toArray, List.set_cons_zero, List.set_cons_succ])
        refine' wpAnyH_take (i := 15) (v := undef) ?hizbnt15 (by kernel_rfl) (by kernel_rfl) (by kernel_rfl) ?hqzbnt15 (Or.inr ⟨?hwzbnt15, rfl⟩) (by assumption) ?hrzbnt15
        case hizbnt15 => (simp only [List.getElem?_toArray, List.getElem?_cons_succ, List.getElem?_cons_zero]; rfl)
        case hqzbnt15 => exact fun _ _ _ h => h
        case hwzbnt15 => rfl
        (try simp only [Act.put, List.setIfInBounds_toArray, List.set_cons_zero, List.set_cons_succ])
        refine' wpAnyH_take (i := 16) (v := undef) ?hizbnt16 (by kernel_rfl) (by kernel_rfl) (by kernel_rfl) ?hqzbnt16 (Or.inr ⟨?hwzbnt16, rfl⟩) (by assumption) ?hrzbnt16
        case hizbnt16 => (simp only [List.getElem?_toArray, List.getElem?_cons_succ, List.getElem?_cons_zero]; rfl)
        case hqzbnt16 => exact fun _ _ _ h => h
        case hwzbnt16 => rfl
        (try simp only [Act.put, List.setIfInBounds_toArray, List.set_cons_zero, List.set_cons_succ])
        refine' wpAnyH_take (i := 17) (v := undef) ?hizbnt17 (by kernel_rfl) (by kernel_rfl) (by kernel_rfl) ?hqzbnt17 (Or.inr ⟨?hwzbnt17, rfl⟩) (by assumption) ?hrzbnt17
        case hizbnt17 => (simp only [List.getElem?_toArray, List.getElem?_cons_succ, List.getElem?_cons_zero]; rfl)
        case hqzbnt17 => exact fun _ _ _ h => h
        case hwzbnt17 => rfl
        (try simp only [Act.put, List.setIfInBounds_toArray, List.set_cons_zero, List.set_cons_succ])
        refine' wpAnyH_take (i := 18) (v := undef) ?hizbnt18 (by kernel_rfl) (by kernel_rfl) (by kernel_rfl) ?hqzbnt18 (Or.inr ⟨?hwzbnt18, rfl⟩) (by assumption) ?hrzbnt18
        case hizbnt18 => (simp only [List.getElem?_toArray, List.getElem?_cons_succ, List.getElem?_cons_zero]; rfl)
        case hqzbnt18 => exact fun _ _ _ h => h
        case hwzbnt18 => rfl
        (try simp only [Act.put, List.setIfInBounds_toArray, List.set_cons_zero, List.set_cons_succ])
        refine' wpAnyH_take (i := 19) (v := undef) ?hizbnt19 (by kernel_rfl) (by kernel_rfl) (by kernel_rfl) ?hqzbnt19 (Or.inr ⟨?hwzbnt19, rfl⟩) (by assumption) ?hrzbnt19
        case hizbnt19 => (simp only [List.getElem?_toArray, List.getElem?_cons_succ, List.getElem?_cons_zero]; rfl)
        case hqzbnt19 => exact fun _ _ _ h => h
        case hwzbnt19 => rfl
        (try simp only [Act.put, List.setIfInBounds_toArray, List.set_cons_zero, List.set_cons_succ])
        refine' wpAnyH_take (i := 20) ?hizbnt20 (by kernel_rfl) (by kernel_rfl) (by kernel_rfl) ?hqzbnt20 (Or.inl ⟨?hwzbnt20, ?hyzbnt20⟩) (by assumption) ?hrzbnt20
        case hizbnt20 => (simp only [List.getElem?_toArray, List.getElem?_cons_succ, List.getElem?_cons_zero]; rfl)
        case hqzbnt20 => exact fun _ _ _ h => h
        case hwzbnt20 => rfl
        case hyzbnt20 => (intro w0 hSw; (try dsimp only at hSw); go_simp; try with_reducible rfl)
        (try simp only [Act.put, List.setIfInBounds_toArray, List.set_cons_zero, List.set_cons_succ])
        refine' wpAnyH_take (i := 21) ?hizbnt21 (by kernel_rfl) (by kernel_rfl) (by kernel_rfl) ?hqzbnt21 (Or.inl ⟨?hwzbnt21, ?hyzbnt21⟩) (by assumption) ?hrzbnt21
        case hizbnt21 => (simp only [List.getElem?_toArray, List.getElem?_cons_succ, List.getElem?_cons_zero]; rfl)
        case hqzbnt21 => exact fun _ _ _ h => h
        case hwzbnt21 => rfl
        case hyzbnt21 => (intro w0 hSw; (try dsimp only at hSw); go_simp; try with_reducible rfl)
        (try simp only [Act.put, List.setIfInBounds_toArray, List.set_cons_zero, List.set_cons_succ])
        refine wpAnyH_done (by kernel_rfl) ?_ _
        clear hHeld
        go_wp2_with fail
        go_roundw
        case rel => exact ⟨true, k + 1, hkt, rfl, by push_cast; rfl, HFT.out, HB7.out.trans (((Below.refl _ w6).drew).mono HB7.out.size)⟩
        case measure => simp [intOf]; omega
       | false =>
        by_cases hu : uk = []
        ·
         by_cases hz : vk = 0
         ·
          subst hz
          have hul : ((uk.length : Nat) : Int) = 0 := by rw [hu]; rfl
          obtain ⟨ul, hule⟩ : ∃ n, n = uk.length := ⟨_, rfl⟩
          rw [← hule] at hul
          have HUL := Lib.hid hule
          clear hule hu
          refine wp_region_held_drew (S := MdS T w (.slice ka i kc) P i g G uG) (by kernel_rfl) ?_ (fun hHeld => ?_)
          ·
           exact HM7.out.next HI.out ((Below.refl _ _).drew)
          refine' wpAnyH_take (i := 0) ?hizbnb0 (by kernel_rfl) (by kernel_rfl) (by kernel_rfl) ?hqzbnb0 (Or.inl ⟨?hwzbnb0, ?hyzbnb0⟩) (by assumption) ?hrzbnb0
          case hizbnb0 => (simp only [List.getElem?_toArray, List.getElem?_cons_zero]; rfl)
          case hqzbnb0 => exact fun _ _ _ h => h
          case hwzbnb0 => rfl
          case hyzbnb0 => (intro w0 hSw; (try dsimp only at hSw); go_simp; try with_reducible rfl)
          (try simp only [Act.put, List.setIfInBounds_toArray, List.set_cons_zero, List.set_cons_succ])
          refine' wpAnyH_take (i := 1) ?hizbnb1 (by kernel_rfl) (by kernel_rfl) (by kernel_rfl) ?hqzbnb1 (Or.inl ⟨?hwzbnb1, ?hyzbnb1⟩) (by assumption) ?hrzbnb1
          case hizbnb1 => (simp only [List.getElem?_toArray, List.getElem?_cons_succ, List.getElem?_cons_zero]; rfl)
          case hqzbnb1 => exact fun _ _ _ h => h
          case hwzbnb1 => rfl
          case hyzbnb1 => (intro w0 hSw; (try dsimp only at hSw); go_simp; try with_reducible rfl)
          (try simp only [Act.put, List.setIfInBounds_toArray, List.set_cons_zero, List.set_cons_succ])
          refine' wpAnyH_take (i := 2) ?hizbnb2 (by kernel_rfl) (by kernel_rfl) (by kernel_rfl) ?hqzbnb2 (Or.inl ⟨?hwzbnb2, ?hyzbnb2⟩) (by assumption) ?hrzbnb2
          case hizbnb2 => (simp only [List.getElem?_toArray, List.getElem?_cons_succ, List.getElem?_cons_zero]; rfl)
          case hqzbnb2 => exact fun _ _ _ h => h
          case hwzbnb2 => rfl
          case hyzbnb2 => (intro w0 hSw; (try dsimp only at hSw); go_simp; try with_reducible rfl)
          (try simp only [Act.put, List.setIfInBounds_toArray, List.set_cons_zero, List.set_cons_succ])
          refine' wpAnyH_take (i := 3) ?hizbnb3 (by kernel_rfl) (by kernel_rfl) (by kernel_rfl) ?hqzbnb3 (Or.inl ⟨?hwzbnb3, ?hyzbnb3⟩) (by assumption) ?hrzbnb3
          case hizbnb3 => (simp only [List.getElem?_toArray, List.getElem?_cons_succ, List.getElem?_cons_zero]; rfl)
          case hqzbnb3 => exact fun _ _ _ h => h
          case hwzbnb3 => rfl
          case hyzbnb3 => (intro w0 hSw; (try dsimp only at hSw); go_simp; try with_reducible rfl)
          (try simp only [Act.put, List.setIfInBounds_toArray, List.set_cons_zero, List.set_cons_succ])
          refine' wpAnyH_take (i := 4) ?hizbnb4 (by kernel_rfl) (by kernel_rfl) (by kernel_rfl) ?hqzbnb4 (Or.inl ⟨?hwzbnb4, ?hyzbnb4⟩) (by assumption) ?hrzbnb4
          case hizbnb4 => (simp only [List.getElem?_toArray, List.getElem?_cons_succ, List.getElem?_cons_zero]; rfl)
          case hqzbnb4 => exact fun _ _ _ h => h
          case hwzbnb4 => rfl
          case hyzbnb4 => exact fun w0 hSw => run_exec_load rfl rfl (HL.out w0 hSw)
          (try simp only [Act.put, List.setIfInBounds_toArray, List.set_cons_zero, List.set_cons_succ])
          refine' wpAnyH_take (i := 5) ?hizbnb5 (by kernel_rfl) (by kernel_rfl) (by kernel_rfl) ?hqzbnb5 (Or.inl ⟨?hwzbnb5, ?hyzbnb5⟩) (by assumption) ?hrzbnb5
          case hizbnb5 => (simp only [List.getElem?_toArray, List.getElem?_cons_succ, List.getElem?_cons_zero]; rfl)
          case hqzbnb5 => exact fun _ _ _ h => h
          case hwzbnb5 => rfl
          case hyzbnb5 => (intro w0 hSw; (try dsimp only at hSw); go_simp; try with_reducible rfl)
          (try simp only [Act.put, List.setIfInBounds_toArray, List.set_cons_zero, List.set_cons_succ])
          refine' wpAnyH_take (i := 6) ?hizbnb6 (by kernel_rfl) (by kernel_rfl) (by kernel_rfl) ?hqzbnb6 (Or.inl ⟨?hwzbnb6, ?hyzbnb6⟩) (by assumption) ?hrzbnb6
          case hizbnb6 => (simp only [List.getElem?_toArray, List.getElem?_cons_succ, List.getElem?_cons_zero]; rfl)
          case hqzbnb6 => exact fun _ _ _ h => h
          case hwzbnb6 => rfl
          case hyzbnb6 => (intro w0 hSw; (try dsimp only at hSw); go_simp; try with_reducible rfl)
          (try simp only [Act.put, List.setIfInBounds_toArray, List.set_cons_zero, List.set_cons_succ])
          refine' wpAnyH_take (i := 7) ?hizbnb7 (by kernel_rfl) (by kernel_rfl) (by kernel_rfl) ?hqzbnb7 (Or.inl ⟨?hwzbnb7, ?hyzbnb7⟩) (by assumption) ?hrzbnb7
          case hizbnb7 => (simp only [List.getElem?_toArray, List.getElem?_cons_succ, List.getElem?_cons_zero]; rfl)
          case hqzbnb7 => exact fun _ _ _ h => h
          case hwzbnb7 => rfl
          case hyzbnb7 => exact fun w0 hSw => exec_hi rfl rfl rfl (HSL.out w0)
          (try simp only [Act.put, List.setIfInBounds_toArray, List.set_cons_zero, List.set_cons_succ])
          refine wpAnyH_ready (rs := [8]) (by kernel_rfl) (by simp) ?_
          refine' AllReadyH.cons ?hizbnb8 (fun K hK => ?hrzbnb8) AllReadyH.nil
          case hizbnb8 => (simp only [List.getElem?_toArray, List.getElem?_cons_succ, List.getElem?_cons_zero]; rfl)
          go_simp
          (refine (HUC.out _ hHeld).mono ?_; rintro e w8 ⟨o, rfl, ho, hb8⟩; obtain ⟨oa, oc, rfl⟩ := ho.form; rw [← HUL.out]; have HB8 := Lib.hid hb8; clear hb8 ho)
          refine hK.out _ _ ?_ (fun hHeld => ?_)
          ·
           exact hHeld.next HI.out HB8.out
          clear hK K
          (try simp only [Act.put, List.setIfInBounds_toArray, List.set_cons_zero, List.set_cons_succ])
          refine' wpAnyH_take (i := 9) ?hizbnb9 (by kernel_rfl) (by kernel_rfl) (by kernel_rfl) ?hqzbnb9 (Or.inl ⟨?hwzbnb9, ?hyzbnb9⟩) (by assumption) ?hrzbnb9
          case hizbnb9 => (simp only [List.getElem?_toArray, List.getElem?_cons_succ, List.getElem?_cons_zero]; rfl)
          case hqzbnb9 => exact fun _ _ _ h => h
          case hwzbnb9 => rfl
          case hyzbnb9 => (intro w0 hSw; (try dsimp only at hSw); go_simp; try with_reducible rfl)
          (try simp only [Act.put, List.setIfInBounds_toArray, List.set_cons_zero, List.set_cons_succ])
          refine' wpAnyH_take (i := 10) ?hizbnb10 (by kernel_rfl) (by kernel_rfl) (by kernel_rfl) ?hqzbnb10 (Or.inl ⟨?hwzbnb10, ?hyzbnb10⟩) (by assumption) ?hrzbnb10
          case hizbnb10 => (simp only [List.getElem?_toArray, List.getElem?_cons_succ, List.getElem?_cons_zero]; rfl)
          case hqzbnb10 => exact fun _ _ _ h => h
          case hwzbnb10 => rfl
          case hyzbnb10 => (intro w0 hSw; (try dsimp only at hSw); go_simp; try with_reducible rfl)
          (try simp only [Act.put, List.setIfInBounds_toArray, List.set_cons_zero, List.set_cons_succ])
          refine' wpAnyH_take (i := 11) ?hizbnb11 (by kernel_rfl) (by kernel_rfl) (by kernel_rfl) ?hqzbnb11 (Or.inl ⟨?hwzbnb11, ?hyzbnb11⟩) (by assumption) ?hrzbnb11
          case hizbnb11 => (simp only [List.getElem?_toArray, List.getElem?_cons_succ, List.getElem?_cons_zero]; rfl)
          case hqzbnb11 => exact fun _ _ _ h => h
          case hwzbnb11 => rfl
          case hyzbnb11 => (intro w0 hSw; (try dsimp only at hSw); go_simp; try with_reducible rfl)
          (try simp only [Act.put, List.setIfInBounds_toArray, List.set_cons_zero, List.set_cons_succ])
          refine' wpAnyH_take (i := 12) ?hizbnb12 (by kernel_rfl) (by kernel_rfl) (by kernel_rfl) ?hqzbnb12 (Or.inl ⟨?hwzbnb12, ?hyzbnb12⟩) (by assumption) ?hrzbnb12
          case hizbnb12 => (simp only [List.getElem?_toArray, List.getElem?_cons_succ, List.getElem?_cons_zero]; rfl)
          case hqzbnb12 => exact fun _ _ _ h => h
          case hwzbnb12 => rfl
          case hyzbnb12 => (intro w0 hSw; (try dsimp only at hSw); go_simp; try with_reducible rfl)
          (try simp only [Act.put, List.setIfInBounds_toArray, List.set_cons_zero, List.set_cons_succ])
          refine' wpAnyH_take (i := 13) ?hizbnb13 (by kernel_rfl) (by kernel_rfl) (by kernel_rfl) ?hqzbnb13 (Or.inl ⟨?hwzbnb13, ?hyzbnb13⟩) (by assumption) ?hrzbnb13
          case hizbnb13 => (simp only [List.getElem?_toArray, List.getElem?_cons_succ, List.getElem?_cons_zero]; rfl)
          case hqzbnb13 => exact fun _ _ _ h => h
          case hwzbnb13 => rfl
          case hyzbnb13 => (intro w0 hSw; (try dsimp only at hSw); go_simp; try with_reducible rfl)
          (try simp only [Act.put, List.setIfInBounds_toArray, List.set_cons_zero, List.set_cons_succ])
          refine' wpAnyH_take (i := 14) ?hizbnb14 (by kernel_rfl) (by kernel_rfl) (by kernel_rfl) ?hqzbnb14 (Or.inl ⟨?hwzbnb14, ?hyzbnb14⟩) (by assumption) ?hrzbnb14
          case hizbnb14 => (simp only [List.getElem?_toArray, List.getElem?_cons_succ, List.getElem?_cons_zero]; rfl)
          case hqzbnb14 => exact fun _ _ _ h => h
          case hwzbnb14 => rfl
          case hyzbnb14 => (intro w0 hSw; (try dsimp only at hSw); go_simp; try with_reducible rfl)
          (try simp only [Act.put, List.setIfInBounds_toArray, List.set_cons_zero, List.set_cons_succ])
          refine' wpAnyH_take (i := 15) ?hizbnb15 (by kernel_rfl) (by kernel_rfl) (by kernel_rfl) ?hqzbnb15 (Or.inl ⟨?hwzbnb15, ?hyzbnb15⟩) (by assumption) ?hrzbnb15
          case hizbnb15 => (simp only [List.getElem?_toArray, List.getElem?_cons_succ, List.getElem?_cons_zero]; rfl)
          case hqzbnb15 => exact fun _ _ _ h => h
          case hwzbnb15 => rfl
          case hyzbnb15 => (intro w0 hSw; (try dsimp only at hSw); go_simp; try with_reducible rfl)
          (try simp only [Act.put, List.setIfInBounds_toArray, List.set_cons_zero, List.set_cons_succ])
          refine' wpAnyH_take (i := 16) ?hizbnb16 (by kernel_rfl) (by kernel_rfl) (by kernel_rfl) ?hqzbnb16 (Or.inl ⟨?hwzbnb16, ?hyzbnb16⟩) (by assumption) ?hrzbnb16
          case hizbnb16 => (simp only [List.getElem?_toArray, List.getElem?_cons_succ, List.getElem?_cons_zero]; rfl)
          case hqzbnb16 => exact fun _ _ _ h => h
          case hwzbnb16 => rfl
          case hyzbnb16 => (intro w0 hSw; (try dsimp only at hSw); go_simp; try with_reducible rfl)
          (try simp only [Act.put, List.setIfInBounds_toArray, List.set_cons_zero, List.set_cons_succ])
          refine' wpAnyH_take (i := 17) (v := undef) ?hizbnb17 (by kernel_rfl) (by kernel_rfl) (by kernel_rfl) ?hqzbnb17 (Or.inr ⟨?hwzbnb17, rfl⟩) (by assumption) ?hrzbnb17
          case hizbnb17 => (simp only [List.getElem?_toArray, List.getElem?_cons_succ, List.getElem?_cons_zero]; rfl)
          case hqzbnb17 => exact fun _ _ _ h => h
          case hwzbnb17 => rfl
          (try simp only [Act.put, List.setIfInBounds_toArray, List.set_cons_zero, List.set_cons_succ])
          refine' wpAnyH_take (i := 18) (v := undef) ?hizbnb18 (by kernel_rfl) (by kernel_rfl) (by kernel_rfl) ?hqzbnb18 (Or.inr ⟨?hwzbnb18, rfl⟩) (by assumption) ?hrzbnb18
          case hizbnb18 => (simp only [List.getElem?_toArray, List.getElem?_cons_succ, List.getElem?_cons_zero]; rfl)
          case hqzbnb18 => exact fun _ _ _ h => h
          case hwzbnb18 => rfl
          (try simp only [Act.put, List.setIfInBounds_toArray, List.set_cons_zero, List.set_cons_succ])
          refine' wpAnyH_take (i := 19) ?hizbnb19 (by kernel_rfl) (by kernel_rfl) (by kernel_rfl) ?hqzbnb19 (Or.inl ⟨?hwzbnb19, ?hyzbnb19⟩) (by assumption) ?hrzbnb19
          case hizbnb19 => (simp only [List.getElem?_toArray, List.getElem?_cons_succ, List.getElem?_cons_zero]; rfl)
          case hqzbnb19 => exact fun _ _ _ h => h
          case hwzbnb19 => rfl
          case hyzbnb19 => (intro w0 hSw; (try dsimp only at hSw); go_simp; try with_reducible rfl)
          (try simp only [Act.put, List.setIfInBounds_toArray, List.set_cons_zero, List.set_cons_succ])
          refine' wpAnyH_take (i := 20) ?hizbnb20 (by kernel_rfl) (by kernel_rfl) (by kernel_rfl) ?hqzbnb20 (Or.inl ⟨?hwzbnb20, ?hyzbnb20⟩) (by assumption) ?hrzbnb20
          case hizbnb20 => (simp only [List.getElem?_toArray, List.getElem?_cons_succ, List.getElem?_cons_zero]; rfl)
          case hqzbnb20 => exact fun _ _ _ h => h
          case hwzbnb20 => rfl
          case hyzbnb20 => (intro w0 hSw; (try dsimp only at hSw); go_simp; try with_reducible rfl)
          (try simp only [Act.put, List.setIfInBounds_toArray, List.set_cons_zero, List.set_cons_succ])
          refine' wpAnyH_take (i := 21) ?hizbnb21 (by kernel_rfl) (by kernel_rfl) (by kernel_rfl) ?hqzbnb21 (Or.inl ⟨?hwzbnb21, ?hyzbnb21⟩) (by assumption) ?hrzbnb21
          case hizbnb21 => (simp only [List.getElem?_toArray, List.getElem?_cons_succ, List.getElem?_cons_zero]; rfl)
          case hqzbnb21 => exact fun _ _ _ h => h
          case hwzbnb21 => rfl
          case hyzbnb21 => (intro w0 hSw; (try dsimp only at hSw); go_simp; try with_reducible rfl)
          (try simp only [Act.put, List.setIfInBounds_toArray, List.set_cons_zero, List.set_cons_succ])
          refine wpAnyH_done (by kernel_rfl) ?_ _
          clear hHeld
          go_wp2_with fail
          go_roundw
          case rel => exact ⟨false, k + 1, hkt, rfl, by push_cast; rfl, fun h => (by cases h), (HB7.out.trans (((Below.refl _ w6).drew).mono HB7.out.size)).trans (HB8.out.mono (Nat.le_trans HB7.out.size (Nat.le_refl _)))⟩
          case measure => simp [intOf]; omega
         ·
          have hne : (vk == 0) = false := beq_eq_false_iff_ne.2 hz
          have HTW := Lib.hid (HC.out hu hz)
          have hul : ((uk.length : Nat) : Int) = 0 := by rw [hu]; rfl
          obtain ⟨ul, hule⟩ : ∃ n, n = uk.length := ⟨_, rfl⟩
          rw [← hule] at hul
          have HUL := Lib.hid hule
          clear hule hu hz
          refine wp_region_held_drew (S := MdS T w (.slice ka i kc) P i g G uG) (by kernel_rfl) ?_ (fun hHeld => ?_)
          ·
           exact HM7.out.next HI.out ((Below.refl _ _).drew)
          refine' wpAnyH_take (i := 0) ?hizbnc0 (by kernel_rfl) (by kernel_rfl) (by kernel_rfl) ?hqzbnc0 (Or.inl ⟨?hwzbnc0, ?hyzbnc0⟩) (by assumption) ?hrzbnc0
          case hizbnc0 => (simp only [List.getElem?_toArray, List.getElem?_cons_zero]; rfl)
          case hqzbnc0 => exact fun _ _ _ h => h
          case hwzbnc0 => rfl
          case hyzbnc0 => (intro w0 hSw; (try dsimp only at hSw); go_simp; try with_reducible rfl)
          (try simp only [Act.put, List.setIfInBounds_toArray, List.set_cons_zero, List.set_cons_succ])
          refine' wpAnyH_take (i := 1) ?hizbnc1 (by kernel_rfl) (by kernel_rfl) (by kernel_rfl) ?hqzbnc1 (Or.inl ⟨?hwzbnc1, ?hyzbnc1⟩) (by assumption) ?hrzbnc1
          case hizbnc1 => (simp only [List.getElem?_toArray, List.getElem?_cons_succ, List.getElem?_cons_zero]; rfl)
          case hqzbnc1 => exact fun _ _ _ h => h
          case hwzbnc1 => rfl
          case hyzbnc1 => (intro w0 hSw; (try dsimp only at hSw); go_simp; try with_reducible rfl)
          (try simp only [Act.put, List.setIfInBounds_toArray, List.set_cons_zero, List.set_cons_succ])
          refine' wpAnyH_take (i := 2) ?hizbnc2 (by kernel_rfl) (by kernel_rfl) (by kernel_rfl) ?hqzbnc2 (Or.inl ⟨?hwzbnc2, ?hyzbnc2⟩) (by assumption) ?hrzbnc2
          case hizbnc2 => (simp only [List.getElem?_toArray, List.getElem?_cons_succ, List.getElem?_cons_zero]; rfl)
          case hqzbnc2 => exact fun _ _ _ h => h
          case hwzbnc2 => rfl
          case hyzbnc2 => (intro w0 hSw; (try dsimp only at hSw); go_simp; try with_reducible rfl)
          (try simp only [Act.put, List.setIfInBounds_toArray, List.set_cons_zero, List.set_cons_succ])
          refine' wpAnyH_take (i := 3) ?hizbnc3 (by kernel_rfl) (by kernel_rfl) (by kernel_rfl) ?hqzbnc3 (Or.inl ⟨?hwzbnc3, ?hyzbnc3⟩) (by assumption) ?hrzbnc3
          case hizbnc3 => (simp only [List.getElem?_toArray, List.getElem?_cons_succ, List.getElem?_cons_zero]; rfl)
          case hqzbnc3 => exact fun _ _ _ h => h
          case hwzbnc3 => rfl
          case hyzbnc3 => (intro w0 hSw; (try dsimp only at hSw); go_simp; try with_reducible rfl)
          (try simp only [Act.put, List.setIfInBounds_toArray, List.set_cons_zero, List.set_cons_succ])
          refine' wpAnyH_take (i := 4) ?hizbnc4 (by kernel_rfl) (by kernel_rfl) (by kernel_rfl) ?hqzbnc4 (Or.inl ⟨?hwzbnc4, ?hyzbnc4⟩) (by assumption) ?hrzbnc4
          case hizbnc4 => (simp only [List.getElem?_toArray, List.getElem?_cons_succ, List.getElem?_cons_zero]; rfl)
          case hqzbnc4 => exact fun _ _ _ h => h
          case hwzbnc4 => rfl
          case hyzbnc4 => exact fun w0 hSw => run_exec_load rfl rfl (HL.out w0 hSw)
          (try simp only [Act.put, List.setIfInBounds_toArray, List.set_cons_zero, List.set_cons_succ])
          refine' wpAnyH_take (i := 5) ?hizbnc5 (by kernel_rfl) (by kernel_rfl) (by kernel_rfl) ?hqzbnc5 (Or.inl ⟨?hwzbnc5, ?hyzbnc5⟩) (by assumption) ?hrzbnc5
          case hizbnc5 => (simp only [List.getElem?_toArray, List.getElem?_cons_succ, List.getElem?_cons_zero]; rfl)
          case hqzbnc5 => exact fun _ _ _ h => h
          case hwzbnc5 => rfl
          case hyzbnc5 => (intro w0 hSw; (try dsimp only at hSw); go_simp; try with_reducible rfl)
          (try simp only [Act.put, List.setIfInBounds_toArray, List.set_cons_zero, List.set_cons_succ])
          refine' wpAnyH_take (i := 6) ?hizbnc6 (by kernel_rfl) (by kernel_rfl) (by kernel_rfl) ?hqzbnc6 (Or.inl ⟨?hwzbnc6, ?hyzbnc6⟩) (by assumption) ?hrzbnc6
          case hizbnc6 => (simp only [List.getElem?_toArray, List.getElem?_cons_succ, List.getElem?_cons_zero]; rfl)
          case hqzbnc6 => exact fun _ _ _ h => h
          case hwzbnc6 => rfl
          case hyzbnc6 => (intro w0 hSw; (try dsimp only at hSw); go_simp; try with_reducible rfl)
          (try simp only [Act.put, List.setIfInBounds_toArray, List.set_cons_zero, List.set_cons_succ])
          refine' wpAnyH_take (i := 7) ?hizbnc7 (by kernel_rfl) (by kernel_rfl) (by kernel_rfl) ?hqzbnc7 (Or.inl ⟨?hwzbnc7, ?hyzbnc7⟩) (by assumption) ?hrzbnc7
          case hizbnc7 => (simp only [List.getElem?_toArray, List.getElem?_cons_succ, List.getElem?_cons_zero]; rfl)
          case hqzbnc7 => exact fun _ _ _ h => h
          case hwzbnc7 => rfl
          case hyzbnc7 => exact fun w0 hSw => exec_hi rfl rfl rfl (HSL.out w0)
          (try simp only [Act.put, List.setIfInBounds_toArray, List.set_cons_zero, List.set_cons_succ])
          refine wpAnyH_ready (rs := [8]) (by kernel_rfl) (by simp) ?_
          refine' AllReadyH.cons ?hizbnc8 (fun K hK => ?hrzbnc8) AllReadyH.nil
          case hizbnc8 => (simp only [List.getElem?_toArray, List.getElem?_cons_succ, List.getElem?_cons_zero]; rfl)
          go_simp
          (refine (HUC.out _ hHeld).mono ?_; rintro e w8 ⟨o, rfl, ho, hb8⟩; obtain ⟨oa, oc, rfl⟩ := ho.form; rw [← HUL.out]; have HB8 := Lib.hid hb8; clear hb8 ho)
          refine hK.out _ _ ?_ (fun hHeld => ?_)
          ·
           exact hHeld.next HI.out HB8.out
          clear hK K
          (try simp only [Act.put, List.setIfInBounds_toArray, List.set_cons_zero, List.set_cons_succ])
          refine' wpAnyH_take (i := 9) ?hizbnc9 (by kernel_rfl) (by kernel_rfl) (by kernel_rfl) ?hqzbnc9 (Or.inl ⟨?hwzbnc9, ?hyzbnc9⟩) (by assumption) ?hrzbnc9
          case hizbnc9 => (simp only [List.getElem?_toArray, List.getElem?_cons_succ, List.getElem?_cons_zero]; rfl)
          case hqzbnc9 => exact fun _ _ _ h => h
          case hwzbnc9 => rfl
          case hyzbnc9 => (intro w0 hSw; (try dsimp only at hSw); go_simp; try with_reducible rfl)
          (try simp only [Act.put, List.setIfInBounds_toArray, List.set_cons_zero, List.set_cons_succ])
          refine' wpAnyH_take (i := 10) ?hizbnc10 (by kernel_rfl) (by kernel_rfl) (by kernel_rfl) ?hqzbnc10 (Or.inl ⟨?hwzbnc10, ?hyzbnc10⟩) (by assumption) ?hrzbnc10
          case hizbnc10 => (simp only [List.getElem?_toArray, List.getElem?_cons_succ, List.getElem?_cons_zero]; rfl)
          case hqzbnc10 => exact fun _ _ _ h => h
          case hwzbnc10 => rfl
          case hyzbnc10 => (intro w0 hSw; (try dsimp only at hSw); go_simp; try with_reducible rfl)
          (try simp only [Act.put, List.setIfInBounds_toArray, List.set_cons_zero, List.set_cons_succ])
          refine' wpAnyH_take (i := 11) ?hizbnc11 (by kernel_rfl) (by kernel_rfl) (by kernel_rfl) ?hqzbnc11 (Or.inl ⟨?hwzbnc11, ?hyzbnc11⟩) (by assumption) ?hrzbnc11
          case hizbnc11 => (simp only [List.getElem?_toArray, List.getElem?_cons_succ, List.getElem?_cons_zero]; rfl)
          case hqzbnc11 => exact fun _ _ _ h => h
          case hwzbnc11 => rfl
          case hyzbnc11 => (intro w0 hSw; (try dsimp only at hSw); go_simp; try with_reducible rfl)
          (try simp only [Act.put, List.setIfInBounds_toArray, List.set_cons_zero, List.set_cons_succ])
          refine' wpAnyH_take (i := 12) ?hizbnc12 (by kernel_rfl) (by kernel_rfl) (by kernel_rfl) ?hqzbnc12 (Or.inl ⟨?hwzbnc12, ?hyzbnc12⟩) (by assumption) ?hrzbnc12
          case hizbnc12 => (simp only [List.getElem?_toArray, List.getElem?_cons_succ, List.getElem?_cons_zero]; rfl)
          case hqzbnc12 => exact fun _ _ _ h => h
          case hwzbnc12 => rfl
          case hyzbnc12 => (intro w0 hSw; (try dsimp only at hSw); go_simp; try with_reducible rfl)
          (try simp only [Act.put, List.setIfInBounds_toArray, List.set_cons_zero, List.set_cons_succ])
          refine' wpAnyH_take (i := 13) ?hizbnc13 (by kernel_rfl) (by kernel_rfl) (by kernel_rfl) ?hqzbnc13 (Or.inl ⟨?hwzbnc13, ?hyzbnc13⟩) (by assumption) ?hrzbnc13
          case hizbnc13 => (simp only [List.getElem?_toArray, List.getElem?_cons_succ, List.getElem?_cons_zero]; rfl)
          case hqzbnc13 => exact fun _ _ _ h => h
          case hwzbnc13 => rfl
          case hyzbnc13 => (intro w0 hSw; (try dsimp only at hSw); go_simp; try with_reducible rfl)
          (try simp only [Act.put, List.setIfInBounds_toArray, List.set_cons_zero, List.set_cons_succ])
          refine' wpAnyH_take (i := 14) (v := undef) ?hizbnc14 (by kernel_rfl) (by kernel_rfl) (by kernel_rfl) ?hqzbnc14 (Or.inr ⟨?hwzbnc14, rfl⟩) (by assumption) ?hrzbnc14
          case hizbnc14 => (simp only [List.getElem?_toArray, List.getElem?_cons_succ, List.getElem?_cons_zero]; rfl)
          case hqzbnc14 => exact fun _ _ _ h => h
          case hwzbnc14 => rfl
          (try simp only [Act.put, List.setIfInBounds_toArray, List.set_cons_zero, List.set_cons_succ])
          refine' wpAnyH_take (i := 15) (v := undef) ?hizbnc15 (by kernel_rfl) (by kernel_rfl) (by kernel_rfl) ?hqzbnc15 (Or.inr ⟨?hwzbnc15, rfl⟩) (by assumption) ?hrzbnc15
          case hizbnc15 => (simp only [List.getElem?_toArray, List.getElem?_cons_succ, List.getElem?_cons_zero]; rfl)
          case hqzbnc15 => exact fun _ _ _ h => h
          case hwzbnc15 => rfl
          (try simp only [Act.put, List.setIfInBounds_toArray, List.set_cons_zero, List.set_cons_succ])
          refine' wpAnyH_take (i := 16) (v := undef) ?hizbnc16 (by kernel_rfl) (by kernel_rfl) (by kernel_rfl) ?hqzbnc16 (Or.inr ⟨?hwzbnc16, rfl⟩) (by assumption) ?hrzbnc16
          case hizbnc16 => (simp only [List.getElem?_toArray, List.getElem?_cons_succ, List.getElem?_cons_zero]; rfl)
          case hqzbnc16 => exact fun _ _ _ h => h
          case hwzbnc16 => rfl
          (try simp only [Act.put, List.setIfInBounds_toArray, List.set_cons_zero, List.set_cons_succ])
          refine' wpAnyH_take (i := 17) (v := undef) ?hizbnc17 (by kernel_rfl) (by kernel_rfl) (by kernel_rfl) ?hqzbnc17 (Or.inr ⟨?hwzbnc17, rfl⟩) (by assumption) ?hrzbnc17
          case hizbnc17 => (simp only [List.getElem?_toArray, List.getElem?_cons_succ, List.getElem?_cons_zero]; rfl)
          case hqzbnc17 => exact fun _ _ _ h => h
          case hwzbnc17 => rfl
          (try simp only [Act.put, List.setIfInBounds_toArray, List.set_cons_zero, List.set_cons_succ])
          refine' wpAnyH_take (i := 18) (v := undef) ?hizbnc18 (by kernel_rfl) (by kernel_rfl) (by kernel_rfl) ?hqzbnc18 (Or.inr ⟨?hwzbnc18, rfl⟩) (by assumption) ?hrzbnc18
          case hizbnc18 => (simp only [List.getElem?_toArray, List.getElem?_cons_succ, List.getElem?_cons_zero]; rfl)
          case hqzbnc18 => exact fun _ _ _ h => h
          case hwzbnc18 => rfl
          (try simp only [Act.put, List.setIfInBounds_toArray, List.set_cons_zero, List.set_cons_succ])
          refine' wpAnyH_take (i := 19) (v := undef) ?hizbnc19 (by kernel_rfl) (by kernel_rfl) (by kernel_rfl) ?hqzbnc19 (Or.inr ⟨?hwzbnc19, rfl⟩) (by assumption) ?hrzbnc19
          case hizbnc19 => (simp only [List.getElem?_toArray, List.getElem?_cons_succ, List.getElem?_cons_zero]; rfl)
          case hqzbnc19 => exact fun _ _ _ h => h
          case hwzbnc19 => rfl
          (try simp only [Act.put, List.setIfInBounds_toArray, List.set_cons_zero, List.set_cons_succ])
          refine' wpAnyH_take (i := 20) ?hizbnc20 (by kernel_rfl) (by kernel_rfl) (by kernel_rfl) ?hqzbnc20 (Or.inl ⟨?hwzbnc20, ?hyzbnc20⟩) (by assumption) ?hrzbnc20
          case hizbnc20 => (simp only [List.getElem?_toArray, List.getElem?_cons_succ, List.getElem?_cons_zero]; rfl)
          case hqzbnc20 => exact fun _ _ _ h => h
          case hwzbnc20 => rfl
          case hyzbnc20 => (intro w0 hSw; (try dsimp only at hSw); go_simp; try with_reducible rfl)
          (try simp only [Act.put, List.setIfInBounds_toArray, List.set_cons_zero, List.set_cons_succ])
          refine' wpAnyH_take (i := 21) ?hizbnc21 (by kernel_rfl) (by kernel_rfl) (by kernel_rfl) ?hqzbnc21 (Or.inl ⟨?hwzbnc21, ?hyzbnc21⟩) (by assumption) ?hrzbnc21
          case hizbnc21 => (simp only [List.getElem?_toArray, List.getElem?_cons_succ, List.getElem?_cons_zero]; rfl)
          case hqzbnc21 => exact fun _ _ _ h => h
          case hwzbnc21 => rfl
          case hyzbnc21 => (intro w0 hSw; (try dsimp only at hSw); go_simp; try with_reducible rfl)
          (try simp only [Act.put, List.setIfInBounds_toArray, List.set_cons_zero, List.set_cons_succ])
          refine wpAnyH_done (by kernel_rfl) ?_ _
          clear hHeld
          go_wp2_with fail
          go_roundw
          case rel => exact ⟨true, k + 1, hkt, rfl, by push_cast; rfl, fun _ => HTW.out, (HB7.out.trans (((Below.refl _ w6).drew).mono HB7.out.size)).trans (HB8.out.mono (Nat.le_trans HB7.out.size (Nat.le_refl _)))⟩
          case measure => simp [intOf]; omega
        ·
         obtain rfl : vk = 11 := HA.out hu
         have hul : (0 : Int) < ((uk.length : Nat) : Int) := by have := List.length_pos_iff.2 hu; omega
         obtain ⟨ul, hule⟩ : ∃ n, n = uk.length := ⟨_, rfl⟩
         rw [← hule] at hul
         have hne : ((ul : Int) == 0) = false := beq_eq_false_iff_ne.2 (by omega)
         have HUL := Lib.hid hule
         clear hule hu
         refine wp_region_held_drew (S := MdS T w (.slice ka i kc) P i g G uG) (by kernel_rfl) ?_ (fun hHeld => ?_)
         ·
          exact HM7.out.next HI.out ((Below.refl _ _).drew)
         refine' wpAnyH_take (i := 0) ?hizbna0 (by kernel_rfl) (by kernel_rfl) (by kernel_rfl) ?hqzbna0 (Or.inl ⟨?hwzbna0, ?hyzbna0⟩) (by assumption) ?hrzbna0
         case hizbna0 => (simp only [List.getElem?_toArray, List.getElem?_cons_zero]; rfl)
         case hqzbna0 => exact fun _ _ _ h => h
         case hwzbna0 => rfl
         case hyzbna0 => (intro w0 hSw; (try dsimp only at hSw); go_simp; try with_reducible rfl)
         (try simp only [Act.put, List.setIfInBounds_toArray, List.set_cons_zero, List.set_cons_succ])
         refine' wpAnyH_take (i := 1) ?hizbna1 (by kernel_rfl) (by kernel_rfl) (by kernel_rfl) ?hqzbna1 (Or.inl ⟨?hwzbna1, ?hyzbna1⟩) (by assumption) ?hrzbna1
         case hizbna1 => (simp only [List.getElem?_toArray, List.getElem?_cons_succ, List.getElem?_cons_zero]; rfl)
         case hqzbna1 => exact fun _ _ _ h => h
         case hwzbna1 => rfl
         case hyzbna1 => (intro w0 hSw; (try dsimp only at hSw); go_simp; try with_reducible rfl)
         (try simp only [Act.put, List.setIfInBounds_toArray, List.set_cons_zero, List.set_cons_succ])
         refine' wpAnyH_take (i := 2) ?hizbna2 (by kernel_rfl) (by kernel_rfl) (by kernel_rfl) ?hqzbna2 (Or.inl ⟨?hwzbna2, ?hyzbna2⟩) (by assumption) ?hrzbna2
         case hizbna2 => (simp only [List.getElem?_toArray, List.getElem?_cons_succ, List.getElem?_cons_zero]; rfl)
         case hqzbna2 => exact fun _ _ _ h => h
         case hwzbna2 => rfl
         case hyzbna2 => (intro w0 hSw; (try dsimp only at hSw); go_simp; try with_reducible rfl)
         (try simp only [Act.put, List.setIfInBounds_toArray, List.set_cons_zero, List.set_cons_succ])
         refine' wpAnyH_take (i := 3) ?hizbna3 (by kernel_rfl) (by kernel_rfl) (by kernel_rfl) ?hqzbna3 (Or.inl ⟨?hwzbna3, ?hyzbna3⟩) (by assumption) ?hrzbna3
         case hizbna3 => (simp only [List.getElem?_toArray, List.getElem?_cons_succ, List.getElem?_cons_zero]; rfl)
         case hqzbna3 => exact fun _ _ _ h => h
         case hwzbna3 => rfl
         case hyzbna3 => (intro w0 hSw; (try dsimp only at hSw); go_simp; try with_reducible rfl)
         (try simp only [Act.put, List.setIfInBounds_toArray, List.set_cons_zero, List.set_cons_succ])
         refine' wpAnyH_take (i := 4) ?hizbna4 (by kernel_rfl) (by kernel_rfl) (by kernel_rfl) ?hqzbna4 (Or.inl ⟨?hwzbna4, ?hyzbna4⟩) (by assumption) ?hrzbna4
         case hizbna4 => (simp only [List.getElem?_toArray, List.getElem?_cons_succ, List.getElem?_cons_zero]; rfl)
         case hqzbna4 => exact fun _ _ _ h => h
         case hwzbna4 => rfl
         case hyzbna4 => exact fun w0 hSw => run_exec_load rfl rfl (HL.out w0 hSw)
         (try simp only [Act.put, List.setIfInBounds_toArray, List.set_cons_zero, List.set_cons_succ])
         refine' wpAnyH_take (i := 5) ?hizbna5 (by kernel_rfl) (by kernel_rfl) (by kernel_rfl) ?hqzbna5 (Or.inl ⟨?hwzbna5, ?hyzbna5⟩) (by assumption) ?hrzbna5
         case hizbna5 => (simp only [List.getElem?_toArray, List.getElem?_cons_succ, List.getElem?_cons_zero]; rfl)
         case hqzbna5 => exact fun _ _ _ h => h
         case hwzbna5 => rfl
         case hyzbna5 => (intro w0 hSw; (try dsimp only at hSw); go_simp; try with_reducible rfl)
         (try simp only [Act.put, List.setIfInBounds_toArray, List.set_cons_zero, List.set_cons_succ])
         refine' wpAnyH_take (i := 6) ?hizbna6 (by kernel_rfl) (by kernel_rfl) (by kernel_rfl) ?hqzbna6 (Or.inl ⟨?hwzbna6, ?hyzbna6⟩) (by assumption) ?hrzbna6
         case hizbna6 => (simp only [List.getElem?_toArray, List.getElem?_cons_succ, List.getElem?_cons_zero]; rfl)
         case hqzbna6 => exact fun _ _ _ h => h
         case hwzbna6 => rfl
         case hyzbna6 => (intro w0 hSw; (try dsimp only at hSw); go_simp; try with_reducible rfl)
         (try simp only [Act.put, List.setIfInBounds_toArray, List.set_cons_zero, List.set_cons_succ])
         refine' wpAnyH_take (i := 7) ?hizbna7 (by kernel_rfl) (by kernel_rfl) (by kernel_rfl) ?hqzbna7 (Or.inl ⟨?hwzbna7, ?hyzbna7⟩) (by assumption) ?hrzbna7
         case hizbna7 => (simp only [List.getElem?_toArray, List.getElem?_cons_succ, List.getElem?_cons_zero]; rfl)
         case hqzbna7 => exact fun _ _ _ h => h
         case hwzbna7 => rfl
         case hyzbna7 => exact fun w0 hSw => exec_hi rfl rfl rfl (HSL.out w0)
         (try simp only [Act.put, List.setIfInBounds_toArray, List.set_cons_zero, List.set_cons_succ])
         refine wpAnyH_ready (rs := [8]) (by kernel_rfl) (by simp) ?_
         refine' AllReadyH.cons ?hizbna8 (fun K hK => ?hrzbna8) AllReadyH.nil
         case hizbna8 => (simp only [List.getElem?_toArray, List.getElem?_cons_succ, List.getElem?_cons_zero]; rfl)
         go_simp
         (refine (HUC.out _ hHeld).mono ?_; rintro e w8 ⟨o, rfl, ho, hb8⟩; obtain ⟨oa, oc, rfl⟩ := ho.form; rw [← HUL.out]; have HB8 := Lib.hid hb8; clear hb8 ho)
         refine hK.out _ _ ?_ (fun hHeld => ?_)
         ·
          exact hHeld.next HI.out HB8.out
         clear hK K
         (try simp only [Act.put, List.setIfInBounds_toArray, List.set_cons_zero, List.set_cons_succ])
         refine' wpAnyH_take (i := 9) ?hizbna9 (by kernel_rfl) (by kernel_rfl) (by kernel_rfl) ?hqzbna9 (Or.inl ⟨?hwzbna9, ?hyzbna9⟩) (by assumption) ?hrzbna9
         case hizbna9 => (simp only [List.getElem?_toArray, List.getElem?_cons_succ, List.getElem?_cons_zero]; rfl)
         case hqzbna9 => exact fun _ _ _ h => h
         case hwzbna9 => rfl
         case hyzbna9 => (intro w0 hSw; (try dsimp only at hSw); go_simp; try with_reducible rfl)
         (try simp only [Act.put, List.setIfInBounds_toArray, List.set_cons_zero, List.set_cons_succ])
         refine' wpAnyH_take (i := 10) ?hizbna10 (by kernel_rfl) (by kernel_rfl) (by kernel_rfl) ?hqzbna10 (Or.inl ⟨?hwzbna10, ?hyzbna10⟩) (by assumption) ?hrzbna10
         case hizbna10 => (simp only [List.getElem?_toArray, List.getElem?_cons_succ, List.getElem?_cons_zero]; rfl)
         case hqzbna10 => exact fun _ _ _ h => h
         case hwzbna10 => rfl
         case hyzbna10 => (intro w0 hSw; (try dsimp only at hSw); go_simp; try with_reducible rfl)
         (try simp only [Act.put, List.setIfInBounds_toArray, List.set_cons_zero, List.set_cons_succ])
         refine' wpAnyH_take (i := 11) ?hizbna11 (by kernel_rfl) (by kernel_rfl) (by kernel_rfl) ?hqzbna11 (Or.inl ⟨?hwzbna11, ?hyzbna11⟩) (by assumption) ?hrzbna11
         case hizbna11 => (simp only [List.getElem?_toArray, List.getElem?_cons_succ, List.getElem?_cons_zero]; rfl)
         case hqzbna11 => exact fun _ _ _ h => h
         case hwzbna11 => rfl
         case hyzbna11 => (intro w0 hSw; (try dsimp only at hSw); go_simp; try with_reducible rfl)
         (try simp only [Act.put, List.setIfInBounds_toArray, List.set_cons_zero, List.set_cons_succ])
         refine' wpAnyH_take (i := 12) ?hizbna12 (by kernel_rfl) (by kernel_rfl) (by kernel_rfl) ?hqzbna12 (Or.inl ⟨?hwzbna12, ?hyzbna12⟩) (by assumption) ?hrzbna12
         case hizbna12 => (simp only [List.getElem?_toArray, List.getElem?_cons_succ, List.getElem?_cons_zero]; rfl)
         case hqzbna12 => exact fun _ _ _ h => h
         case hwzbna12 => rfl
         case hyzbna12 => (intro w0 hSw; (try dsimp only at hSw); go_simp; try with_reducible rfl)
         (try simp only [Act.put, List.setIfInBounds_toArray, List.set_cons_zero, List.set_cons_succ])
         refine' wpAnyH_take (i := 13) ?hizbna13 (by kernel_rfl) (by kernel_rfl) (by kernel_rfl) ?hqzbna13 (Or.inl ⟨?hwzbna13, ?hyzbna13⟩) (by assumption) ?hrzbna13
         case hizbna13 => (simp only [List.getElem?_toArray, List.getElem?_cons_succ, List.getElem?_cons_zero]; rfl)
         case hqzbna13 => exact fun _ _ _ h => h
         case hwzbna13 => rfl
         case hyzbna13 => (intro w0 hSw; (try dsimp only at hSw); go_simp; try with_reducible rfl)
         (try simp only [Act.put, List.setIfInBounds_toArray, List.set_cons_zero, List.set_cons_succ])
         refine' wpAnyH_take (i := 14) ?hizbna14 (by kernel_rfl) (by kernel_rfl) (by kernel_rfl) ?hqzbna14 (Or.inl ⟨?hwzbna14, ?hyzbna14⟩) (by assumption) ?hrzbna14
         case hizbna14 => (simp only [List.getElem?_toArray, List.getElem?_cons_succ, List.getElem?_cons_zero]; rfl)
         case hqzbna14 => exact fun _ _ _ h => h
         case hwzbna14 => rfl
         case hyzbna14 => (intro w0 hSw; (try dsimp only at hSw); go_simp; try with_reducible rfl)
         (try simp only [Act.put, List.setIfInBounds_toArray, List.set_cons_zero, List.set_cons_succ])
         refine' wpAnyH_take (i := 15) ?hizbna15 (by kernel_rfl) (by kernel_rfl) (by kernel_rfl) ?hqzbna15 (Or.inl ⟨?hwzbna15, ?hyzbna15⟩) (by assumption) ?hrzbna15
         case hizbna15 => (simp only [List.getElem?_toArray, List.getElem?_cons_succ, List.getElem?_cons_zero]; rfl)
         case hqzbna15 => exact fun _ _ _ h => h
         case hwzbna15 => rfl
         case hyzbna15 => (intro w0 hSw; (try dsimp only at hSw); go_simp; try with_reducible rfl)
         (try simp only [Act.put, List.setIfInBounds_toArray, List.set_cons_zero, List.set_cons_succ])
         refine' wpAnyH_take (i := 16) ?hizbna16 (by kernel_rfl) (by kernel_rfl) (by kernel_rfl) ?hqzbna16 (Or.inl ⟨?hwzbna16, ?hyzbna16⟩) (by assumption) ?hrzbna16
         case hizbna16 => (simp only [List.getElem?_toArray, List.getElem?_cons_succ, List.getElem?_cons_zero]; rfl)
         case hqzbna16 => exact fun _ _ _ h => h
         case hwzbna16 => rfl
         case hyzbna16 => (intro w0 hSw; (try dsimp only at hSw); go_simp; try with_reducible rfl)
         (try simp only [Act.put, List.setIfInBounds_toArray, List.set_cons_zero, List.set_cons_succ])
         refine' wpAnyH_take (i := 17) ?hizbna17 (by kernel_rfl) (by kernel_rfl) (by kernel_rfl) ?hqzbna17 (Or.inl ⟨?hwzbna17, ?hyzbna17⟩) (by assumption) ?hrzbna17
         case hizbna17 => (simp only [List.getElem?_toArray, List.getElem?_cons_succ, List.getElem?_cons_zero]; rfl)
         case hqzbna17 => exact fun _ _ _ h => h
         case hwzbna17 => rfl
         case hyzbna17 => (intro w0 hSw; (try dsimp only at hSw); go_simp; try with_reducible rfl)
         (try simp only [Act.put, List.setIfInBounds_toArray, List.set_cons_zero, List.set_cons_succ])
         refine' wpAnyH_take (i := 18) ?hizbna18 (by kernel_rfl) (by kernel_rfl) (by kernel_rfl) ?hqzbna18 (Or.inl ⟨?hwzbna18, ?hyzbna18⟩) (by assumption) ?hrzbna18
         case hizbna18 => (simp only [List.getElem?_toArray, List.getElem?_cons_succ, List.getElem?_cons_zero]; rfl)
         case hqzbna18 => exact fun _ _ _ h => h
         case hwzbna18 => rfl
         case hyzbna18 => (intro w0 hSw; (try dsimp only at hSw); go_simp; try with_reducible rfl)
         (try simp only [Act.put, List.setIfInBounds_toArray, List.set_cons_zero, List.set_cons_succ])
         refine' wpAnyH_take (i := 19) ?hizbna19 (by kernel_rfl) (by kernel_rfl) (by kernel_rfl) ?hqzbna19 (Or.inl ⟨?hwzbna19, ?hyzbna19⟩) (by assumption) ?hrzbna19
         case hizbna19 => (simp only [List.getElem?_toArray, List.getElem?_cons_succ, List.getElem?_cons_zero]; rfl)
         case hqzbna19 => exact fun _ _ _ h => h
         case hwzbna19 => rfl
         case hyzbna19 => (intro w0 hSw; (try dsimp only at hSw); go_simp; try with_reducible rfl)
         (try simp only [Act.put, List.setIfInBounds_toArray, List.set_cons_zero, List.set_cons_succ])
         refine' wpAnyH_take (i := 20) ?hizbna20 (by kernel_rfl) (by kernel_rfl) (by kernel_rfl) ?hqzbna20 (Or.inl ⟨?hwzbna20, ?hyzbna20⟩) (by assumption) ?hrzbna20
         case hizbna20 => (simp only [List.getElem?_toArray, List.getElem?_cons_succ, List.getElem?_cons_zero]; rfl)
         case hqzbna20 => exact fun _ _ _ h => h
         case hwzbna20 => rfl
         case hyzbna20 => (intro w0 hSw; (try dsimp only at hSw); go_simp; try with_reducible rfl)
         (try simp only [Act.put, List.setIfInBounds_toArray, List.set_cons_zero, List.set_cons_succ])
         refine' wpAnyH_take (i := 21) ?hizbna21 (by kernel_rfl) (by kernel_rfl) (by kernel_rfl) ?hqzbna21 (Or.inl ⟨?hwzbna21, ?hyzbna21⟩) (by assumption) ?hrzbna21
         case hizbna21 => (simp only [List.getElem?_toArray, List.getElem?_cons_succ, List.getElem?_cons_zero]; rfl)
         case hqzbna21 => exact fun _ _ _ h => h
         case hwzbna21 => rfl
         case hyzbna21 => (intro w0 hSw; (try dsimp only at hSw); go_simp; try with_reducible rfl)
         (try simp only [Act.put, List.setIfInBounds_toArray, List.set_cons_zero, List.set_cons_succ])
         refine wpAnyH_done (by kernel_rfl) ?_ _
         clear hHeld
         go_wp2_with fail
         go_roundw
         case rel => exact ⟨false, k + 1, hkt, rfl, by push_cast; rfl, fun h => (by cases h), (HB7.out.trans (((Below.refl _ w6).drew).mono HB7.out.size)).trans (HB8.out.mono (Nat.le_trans HB7.out.size (Nat.le_refl _)))⟩
         case measure => simp [intOf]; omega
      ·
       obtain rfl : k = i := by omega
       have hsepk := HC.out.own.1
       obtain ⟨kv2, w9, hrun, ho9, ht9, -⟩ := push_hd hm.c.own G uG HCOM.out hm.p (fun hne b off n c e hkk => absurd (HNW.out hne b off n c e) (by have := hsepk.lt hkk; have := HS.out; have := HSR.out; omega)) (by have := hm.c.len; omega) (fun b hb => (show w.heap.size ≤ b by have := hm.c.below.size; omega)) 27
       have hlg := run_load_hd hm.b HCOM.out
       have hbl9 : Below w.heap.size w w9 := hm.c.below.trans (ht9.below fun b hb => by
        rcases hb with hb | hb
        ·
         exact hm.c.own.1.2.2 b hb
        ·
         have := hm.c.below.size; omega)
       have hgood : ∀ p ∈ P ++ [(G, uG)], checkH p.1 = 0 ∧ p.1.height ≤ ((k + 1 : Nat) : Int) ∧ p.1.topic = [99, 97] := fun p hp => (List.mem_append.1 hp).elim (fun h => by
        have := hm.c.good p h
        exact ⟨this.1, by have := this.2.1; push_cast; omega, this.2.2⟩) (fun h => by rw [List.mem_singleton.1 h]; exact ⟨HG0.out, HGH.out, HGT.out⟩)
       have hlen : (P ++ [(G, uG)]).length = k + 1 := by rw [List.length_append, List.length_singleton, hm.c.len]
       have ht9' : T w9 := HI.out.next HT0.out hbl9
       have HC9 : Hid (ChS T w kv2 (P ++ [(G, uG)]) (k + 1) w9) := Lib.hid ⟨ht9', ho9, hgood, hlen, hbl9⟩
       clear hft hb hm hsepk ho9 ht9 hbl9 hgood hlen ht9'
       cases fl with
       | true =>
        have HTW : Hid (Twin (hs (P ++ [(G, uG)]))) := Lib.hid ((HFT.out rfl).mono fun a ha => by unfold hs at ha ⊢; rw [List.map_append]; exact List.mem_append_left _ ha)
        go_wp2_with (first
         | ((with_reducible refine step_load (t := 26) (x := .tmp 10) (p := ?lpzbnx1) (v := ?lvzbnx1) ?lgzbnx1 ?lozbnx1 ?lxzbnx1 ?lrzbnx1 ?lhzbnx1); (case lgzbnx1 => rfl); (case lozbnx1 => rfl); (case lxzbnx1 => rfl); (case lrzbnx1 => exact hlg))
         | ((with_reducible refine hds.step_build1h (x := .tmp 109) (h := ?bhzbnx2) (v := ?bvzbnx2) ?bgzbnx2 ?bozbnx2 ?bxzbnx2 ?blzbnx2 ?bkzbnx2); (case bgzbnx2 => rfl); (case bozbnx2 => rfl); (case bxzbnx2 => rfl); (case blzbnx2 => exact HCOM.out))
         | ((with_reducible refine step_append (s := .tmp 108) (x := .tmp 110) (t := 27) (vs := ?aszbnx3) (vx := ?axzbnx3) (v' := ?avzbnx3) (w' := ?awzbnx3) ?agzbnx3 ?aozbnx3 ?apzbnx3 ?aqzbnx3 ?arzbnx3 ?ahzbnx3); (case agzbnx3 => rfl); (case aozbnx3 => rfl); (case apzbnx3 => rfl); (case aqzbnx3 => rfl); (case arzbnx3 => exact hrun)))
        refine bodyPost_ret (results_tmp2 rfl _ _ _) rfl ?_
        exact ⟨_, P ++ [(G, uG)], false, rfl, HC9.out.hsv (by omega), HC9.out.few, by have := HC9.out.len; omega, fun _ => HTW.out, HC9.out.below⟩
       | false =>
        go_wp2_with (first
         | ((with_reducible refine step_load (t := 26) (x := .tmp 10) (p := ?lpzbny1) (v := ?lvzbny1) ?lgzbny1 ?lozbny1 ?lxzbny1 ?lrzbny1 ?lhzbny1); (case lgzbny1 => rfl); (case lozbny1 => rfl); (case lxzbny1 => rfl); (case lrzbny1 => exact hlg))
         | ((with_reducible refine hds.step_build1h (x := .tmp 109) (h := ?bhzbny2) (v := ?bvzbny2) ?bgzbny2 ?bozbny2 ?bxzbny2 ?blzbny2 ?bkzbny2); (case bgzbny2 => rfl); (case bozbny2 => rfl); (case bxzbny2 => rfl); (case blzbny2 => exact HCOM.out))
         | ((with_reducible refine step_append (s := .tmp 108) (x := .tmp 110) (t := 27) (vs := ?aszbny3) (vx := ?axzbny3) (v' := ?avzbny3) (w' := ?awzbny3) ?agzbny3 ?aozbny3 ?apzbny3 ?aqzbny3 ?arzbny3 ?ahzbny3); (case agzbny3 => rfl); (case aozbny3 => rfl); (case apzbny3 => rfl); (case aqzbny3 => rfl); (case arzbny3 => exact hrun)))
        go_roundw
        case rel => exact ⟨P ++ [(G, uG)], k + 1, hlt.1, hlt.2, by push_cast; rfl, HC9.out⟩
        case measure => simp [intOf]; omega
end Go.Proofs.YtpeneeddfgmjpaaGreatDoor.rul
