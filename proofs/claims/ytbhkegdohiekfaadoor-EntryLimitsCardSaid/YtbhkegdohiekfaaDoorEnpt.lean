/-
  petrelref14.Put.
-/
import Derived.Test.YtbhkegdohiekfaaDoorEnck
import Derived.Test.YtbhkegdohiekfaaDoorRdn
namespace Go.Proofs.YtbhkegdohiekfaaDoor.ent
open Go.RowKit Go.Proofs.YtbhkegdohiekfaaDoor.mem Go.Proofs.YtbhkegdohiekfaaDoor.sha Go.Proofs.YtbhkegdohiekfaaDoor.ids
open Go.Proofs.YtbhkegdohiekfaaDoor.opn (b1 b2 b4 num txt idl byte rd rdN rdT rdI rdS rdL St Reads Stays endE zid mkId)
open Go.Proofs.YtbhkegdohiekfaaDoor.topic (kindOf)

theorem bv_step (x : List UInt8) (k : Nat) (h : k < x.length) : bv (x.take (k + 1)) = bv (x.take k) ++ [.int .u8 (B (x.getD k 0))] := by
  rw [List.take_succ_eq_append_getElem h]
  unfold bv
  rw [List.map_append, List.getD_eq_getElem?_getD, List.getElem?_eq_getElem h]
  rfl
theorem tx_cat (a b : List UInt8) : oct.tx a ++ oct.tx b = oct.tx (a ++ b) := by
  apply oct.bytes_ext
  rw [oct.tx_list]
  simp [oct.tx_list]
theorem tx_nil (s : ByteArray) : s ++ (⟨#[]⟩ : ByteArray) = s := by
  apply oct.bytes_ext
  simp
set_option maxHeartbeats 8000000 in
set_option maxRecDepth 100000 in
theorem put_any (e : En) (w : World) (hr : e.commit.length = 32) (ht : e.topic.length ≤ 549755813888000) (hb : e.body.length ≤ 140737488351232) :
    Calls Tryd.prog 9 #[env e] w fun x w' => x = .returned (.tuple #[.string (oct.tx (putE e).1), .int .i64 (putE e).2]) ∧ Below w.heap.size w w' := by
  obtain ⟨w1, hw1⟩ : ∃ u, u = w.alloc (.cells (enc e).toArray 25) := ⟨_, rfl⟩
  obtain ⟨S, hS⟩ : ∃ S, S = w.heap.size := ⟨_, rfl⟩
  have hX : Blk w1 S 25 (enc e).toArray := by rw [hw1, hS]; exact Blk.new w _ _
  have hB : Below w.heap.size w w1 := by rw [hw1]; exact (Below.refl _ _).alloc (Nat.le_refl _) _
  have hld := run_load_en hX hr
  have hck := check_any e w1 hr ht hb
  obtain ⟨c, hc⟩ : ∃ c, checkE e = c := ⟨_, rfl⟩
  rw [hc] at hck
  have HB := Lib.hid hB
  have HS := Lib.hid hS
  have HW := Lib.hid hw1
  have HX := Lib.hid hX
  have HCK := Lib.hid hck
  have HR := Lib.hid hr
  have HC := Lib.hid hc
  clear hX hB hw1 hS hck hc hr ht hb
  unfold env
  by_cases h0 : c = 0
  · subst h0
    have HE : Hid (putE e = (enE e, 0)) := Lib.hid (put_ok HC.out)
    obtain ⟨⟨k1, k2⟩, hbl, hcl⟩ := check_four HC.out
    obtain ⟨k, hk⟩ : ∃ k, k = e.k := ⟨_, rfl⟩
    obtain ⟨p, hp⟩ : ∃ p, p = hasB k := ⟨_, rfl⟩
    have hhas := fun u => has_any k u
    rw [← hp] at hhas
    have HHAS := Lib.hid hhas
    have HK := Lib.hid hk
    have HNUM := Lib.hid (opn.num1_r k (by omega) (by omega))
    obtain ⟨t1, ht1⟩ : ∃ t, t = oct.tx (b1 k) := ⟨_, rfl⟩
    have hz1 : t1.size = 1 := by rw [ht1, oct.tx_size]; rfl
    rw [← ht1] at HNUM
    have HT1 := Lib.hid ht1
    obtain ⟨ts, hts⟩ : ∃ b, b = oct.tx e.topic := ⟨_, rfl⟩
    obtain ⟨bs, hbs⟩ : ∃ b, b = oct.tx e.body := ⟨_, rfl⟩
    have HTS := Lib.hid hts
    have HBS := Lib.hid hbs
    have hbz : bs.size ≤ 1048512 := by rw [hbs, oct.tx_size]; exact hbl
    rw [← hk] at hcl
    clear hhas hk ht1 hts hbs hbl k1 k2
    rcases hcl with ⟨hkk, he⟩ | ⟨hkk, he⟩ | ⟨hkk, he, htl⟩ | ⟨hkk, he, htl⟩
    · have inT := Lib.hid (in_lit p 84 84 rfl false (by rw [hp]; unfold hasB hasL; rw [hkk]; decide +kernel) (by rw [hp, has_size]; unfold hasL; rw [hkk]; decide))
      have inC := Lib.hid (in_lit p 67 67 rfl false (by rw [hp]; unfold hasB hasL; rw [hkk]; decide +kernel) (by rw [hp, has_size]; unfold hasL; rw [hkk]; decide))
      have inB := Lib.hid (in_lit p 66 66 rfl true (by rw [hp]; unfold hasB hasL; rw [hkk]; decide +kernel) (by rw [hp, has_size]; unfold hasL; rw [hkk]; decide))
      have HEN : Hid (enE e = b1 k ++ (e.body)) := Lib.hid (by unfold enE tailE; rw [← HK.out, hkk]; rfl)
      clear he hkk hp
      go_enter Tryd.func9, Tryd.ntmps9
      go_upto_region 1 with fail
      refine wp_at HW.out.symm ?_
      rw [← HS.out]
      clear HW
      go_wp2_with (first
        | ((with_reducible refine step_load (t := 25) (x := .tmp 1) (p := ?lplac1) (v := ?lvlac1) ?lglac1 ?lolac1 ?lxlac1 ?lrlac1 ?lhlac1); (case lglac1 => rfl); (case lolac1 => rfl); (case lxlac1 => rfl); (case lrlac1 => exact hld))
        | (go_at_call 11; (with_reducible refine HCK.out.mono ?_); rintro x w2 ⟨rfl, hb2⟩; have hX2 := HX.out.below hb2 HX.out.lt; have HX2 := Lib.hid hX2; have HB2 := Lib.hid (HB.out.trans (hb2.mono HB.out.size)); have c0 := (EnBlk.of HX2.out HR.out).k; rw [← HK.out] at c0; have c1 := (EnBlk.of HX2.out HR.out).topic; rw [← HTS.out] at c1; have c2 := (EnBlk.of HX2.out HR.out).body; rw [← HBS.out] at c2; clear hX2 hb2)
        | (go_at_call 24; (with_reducible refine (HNUM.out _).mono ?_); rintro x w3 ⟨rfl, hb3⟩; have hX3 := HX2.out.below hb3 HX2.out.lt; have HX3 := Lib.hid hX3; have HB3 := Lib.hid (HB2.out.trans (hb3.mono HB2.out.size)); clear c0 c1 c2; have c0 := (EnBlk.of HX3.out HR.out).k; rw [← HK.out] at c0; have c1 := (EnBlk.of HX3.out HR.out).topic; rw [← HTS.out] at c1; have c2 := (EnBlk.of HX3.out HR.out).body; rw [← HBS.out] at c2; clear hX3 hb3)
        | (go_at_call 25; (with_reducible refine (HHAS.out _).mono ?_); rintro x w5 ⟨rfl, rfl⟩)
        | (go_at_call 26; (with_reducible refine (inT.out _).mono ?_); rintro x w5 ⟨rfl, rfl⟩)
        | (go_at_call 26; (with_reducible refine (inC.out _).mono ?_); rintro x w5 ⟨rfl, rfl⟩)
        | (go_at_call 26; (with_reducible refine (inB.out _).mono ?_); rintro x w5 ⟨rfl, rfl⟩))
      go_ret2
      exact ⟨by rw [HE.out]; show Ending.returned (.tuple #[.string (t1 ++ bs), .int .i64 0]) = _; rw [HEN.out, HBS.out, HT1.out, tx_cat], HB3.out⟩
    · have inT := Lib.hid (in_lit p 84 84 rfl false (by rw [hp]; unfold hasB hasL; rw [hkk]; decide +kernel) (by rw [hp, has_size]; unfold hasL; rw [hkk]; decide))
      have inC := Lib.hid (in_lit p 67 67 rfl true (by rw [hp]; unfold hasB hasL; rw [hkk]; decide +kernel) (by rw [hp, has_size]; unfold hasL; rw [hkk]; decide))
      have inB := Lib.hid (in_lit p 66 66 rfl false (by rw [hp]; unfold hasB hasL; rw [hkk]; decide +kernel) (by rw [hp, has_size]; unfold hasL; rw [hkk]; decide))
      have HEN : Hid (enE e = b1 k ++ (e.commit)) := Lib.hid (by unfold enE tailE; rw [← HK.out, hkk]; rfl)
      have HBE : Hid (bs = ⟨#[]⟩) := Lib.hid (by rw [HBS.out, he]; rfl)
      clear he hkk hp
      go_enter Tryd.func9, Tryd.ntmps9
      go_upto_region 1 with fail
      refine wp_at HW.out.symm ?_
      rw [← HS.out]
      clear HW
      go_upto_region 11 with (first
        | ((with_reducible refine step_load (t := 25) (x := .tmp 1) (p := ?lplac2) (v := ?lvlac2) ?lglac2 ?lolac2 ?lxlac2 ?lrlac2 ?lhlac2); (case lglac2 => rfl); (case lolac2 => rfl); (case lxlac2 => rfl); (case lrlac2 => exact hld))
        | (go_at_call 11; (with_reducible refine HCK.out.mono ?_); rintro x w2 ⟨rfl, hb2⟩; have hX2 := HX.out.below hb2 HX.out.lt; have HX2 := Lib.hid hX2; have HB2 := Lib.hid (HB.out.trans (hb2.mono HB.out.size)); have c0 := (EnBlk.of HX2.out HR.out).k; rw [← HK.out] at c0; have c1 := (EnBlk.of HX2.out HR.out).topic; rw [← HTS.out] at c1; have c2 := (EnBlk.of HX2.out HR.out).body; rw [← HBS.out] at c2; clear hX2 hb2)
        | (go_at_call 24; (with_reducible refine (HNUM.out _).mono ?_); rintro x w3 ⟨rfl, hb3⟩; have hX3 := HX2.out.below hb3 HX2.out.lt; have HX3 := Lib.hid hX3; have HB3 := Lib.hid (HB2.out.trans (hb3.mono HB2.out.size)); clear c0 c1 c2; have c0 := (EnBlk.of HX3.out HR.out).k; rw [← HK.out] at c0; have c1 := (EnBlk.of HX3.out HR.out).topic; rw [← HTS.out] at c1; have c2 := (EnBlk.of HX3.out HR.out).body; rw [← HBS.out] at c2; clear hX3 hb3)
        | (go_at_call 25; (with_reducible refine (HHAS.out _).mono ?_); rintro x w5 ⟨rfl, rfl⟩)
        | (go_at_call 26; (with_reducible refine (inT.out _).mono ?_); rintro x w5 ⟨rfl, rfl⟩)
        | (go_at_call 26; (with_reducible refine (inC.out _).mono ?_); rintro x w5 ⟨rfl, rfl⟩)
        | (go_at_call 26; (with_reducible refine (inB.out _).mono ?_); rintro x w5 ⟨rfl, rfl⟩))
      obtain ⟨B0, hB0⟩ : ∃ b, b = w3.heap.size := ⟨_, rfl⟩
      have HB0 := Lib.hid hB0
      clear hld HCK HHAS HNUM inT inC inB c0 c1 c2
      go_wp2_with fail
      go_loopw [10, 11] (fun vo i wr => ∃ k : Nat, k ≤ 32 ∧ i = .int .i64 k ∧ Owns wr (B0 ≤ ·) vo k (bv (e.commit.take k)) ∧ Blk wr S 25 (enc e).toArray ∧ Below B0 w3 wr) (fun _ i _ => 32 - (intOf i).toNat)
      case atStart => exact ⟨0, by decide, rfl, Owns.nil _ _, HX3.out, Below.refl _ _⟩
      case round =>
        obtain ⟨j, hj, rfl, hO, hXr, hbr⟩ := hrel
        obtain ⟨ad, m, cc, rfl⟩ := hO.form
        have HO := Lib.hid hO
        have HXR := Lib.hid hXr
        have HBR := Lib.hid hbr
        have k0 : (0 : Int) ≤ (j : Int) := Int.natCast_nonneg _
        by_cases hlt : j < 32
        · have k1 : (j : Int) < 32 := by omega
          have hcm : wr.cell? ⟨S, 3 + j, none⟩ = some (.int .u8 (B (e.commit.getD j 0))) := by
            rw [hXr.cell, List.getElem?_toArray]
            unfold enc
            rw [List.getElem?_append_right (by simp), show 3 + j - ([Value.int .i64 e.k, .string (oct.tx e.topic), .string (oct.tx e.body)] : List Value).length = j by simp]
            exact bv_get _ _ (by rw [HR.out]; exact hlt)
          have HT := Lib.hid (bv_step e.commit j (by rw [HR.out]; exact hlt))
          obtain ⟨y, hy⟩ : ∃ y, y = e.commit.getD j 0 := ⟨_, rfl⟩
          rw [← hy] at hcm HT
          have hn : New (B0 ≤ ·) wr := fun b hb => by have := hbr.size; have := HB0.out; omega
          have HN := Lib.hid hn
          clear hO hXr hbr hy hn
          go_wp2_with (at_builtin; go_must (refine wp_append_new rfl (.tmp 47) (.tmp 52) rfl (B0 ≤ ·) _ _ j _ rfl HO.out [_] 1 rfl rfl (one1 _) (by omega) HN.out ?_); intro v1 w4 ho1 ht1; have HO1 := Lib.hid ho1; have HT1 := Lib.hid ht1; clear ho1 ht1)
          go_roundw
          case rel => exact ⟨j + 1, hlt, by push_cast; rfl, by rw [HT.out]; exact HO1.out, HXR.out.turn HT1.out (by have := HX3.out.lt; have := HB0.out; omega), HBR.out.trans (HT1.out.below fun b hb => hb)⟩
          case measure => simp [intOf]; omega
        · obtain rfl : j = 32 := by omega
          have htk : e.commit.take 32 = e.commit := List.take_of_length_le (by rw [HR.out]; exact Nat.le_refl _)
          have hst : (convert 49 9 (.slice ad m cc)).run Tryd.prog wr = .ok (.string (oct.tx e.commit)) wr := by
            rw [htk] at hO
            exact Owns.string (by rw [HR.out]; exact hO)
          obtain ⟨cs, hcs⟩ : ∃ b, b = oct.tx e.commit := ⟨_, rfl⟩
          have hcz : cs.size = 32 := by rw [hcs, oct.tx_size, HR.out]
          rw [← hcs] at hst
          have HCS := Lib.hid hcs
          have c2 := (EnBlk.of hXr HR.out).body
          rw [← HBS.out] at c2
          clear hO hXr hbr hlt htk hcs
          go_wp2_with fail
          go_ret2
          refine ⟨by rw [HE.out]; show Ending.returned (.tuple #[.string (t1 ++ cs ++ bs), .int .i64 0]) = _; rw [HEN.out, HBE.out, HT1.out, HCS.out, tx_cat, tx_nil], ?_⟩
          exact HB3.out.trans (HBR.out.mono (by have := HB0.out; have := HB3.out.size; omega))
    · have inT := Lib.hid (in_lit p 84 84 rfl true (by rw [hp]; unfold hasB hasL; rw [hkk]; decide +kernel) (by rw [hp, has_size]; unfold hasL; rw [hkk]; decide))
      have inC := Lib.hid (in_lit p 67 67 rfl false (by rw [hp]; unfold hasB hasL; rw [hkk]; decide +kernel) (by rw [hp, has_size]; unfold hasL; rw [hkk]; decide))
      have inB := Lib.hid (in_lit p 66 66 rfl false (by rw [hp]; unfold hasB hasL; rw [hkk]; decide +kernel) (by rw [hp, has_size]; unfold hasL; rw [hkk]; decide))
      have htl : ts.size ≤ 12 := by rw [HTS.out, oct.tx_size]; exact htl
      have HNT := Lib.hid (opn.num1_r (ts.size : Int) (Int.natCast_nonneg _) (by omega))
      obtain ⟨t2, ht2⟩ : ∃ t, t = oct.tx (b1 (ts.size : Int)) := ⟨_, rfl⟩
      have hz2 : t2.size = 1 := by rw [ht2, oct.tx_size]; rfl
      rw [← ht2] at HNT
      have HT2 := Lib.hid ht2
      have HEN : Hid (enE e = b1 k ++ (txt e.topic)) := Lib.hid (by unfold enE tailE; rw [← HK.out, hkk]; rfl)
      have HBE : Hid (bs = ⟨#[]⟩) := Lib.hid (by rw [HBS.out, he]; rfl)
      clear he hkk hp ht2
      go_enter Tryd.func9, Tryd.ntmps9
      go_upto_region 1 with fail
      refine wp_at HW.out.symm ?_
      rw [← HS.out]
      clear HW
      go_wp2_with (first
        | ((with_reducible refine step_load (t := 25) (x := .tmp 1) (p := ?lplac3) (v := ?lvlac3) ?lglac3 ?lolac3 ?lxlac3 ?lrlac3 ?lhlac3); (case lglac3 => rfl); (case lolac3 => rfl); (case lxlac3 => rfl); (case lrlac3 => exact hld))
        | (go_at_call 11; (with_reducible refine HCK.out.mono ?_); rintro x w2 ⟨rfl, hb2⟩; have hX2 := HX.out.below hb2 HX.out.lt; have HX2 := Lib.hid hX2; have HB2 := Lib.hid (HB.out.trans (hb2.mono HB.out.size)); have c0 := (EnBlk.of HX2.out HR.out).k; rw [← HK.out] at c0; have c1 := (EnBlk.of HX2.out HR.out).topic; rw [← HTS.out] at c1; have c2 := (EnBlk.of HX2.out HR.out).body; rw [← HBS.out] at c2; clear hX2 hb2)
        | (go_at_call 24; (with_reducible refine (HNT.out _).mono ?_); rintro x w4 ⟨rfl, hb4⟩; have hX4 := HX3.out.below hb4 HX3.out.lt; have HX4 := Lib.hid hX4; have HB4 := Lib.hid (HB3.out.trans (hb4.mono HB3.out.size)); clear c0 c1 c2; have c0 := (EnBlk.of HX4.out HR.out).k; rw [← HK.out] at c0; have c1 := (EnBlk.of HX4.out HR.out).topic; rw [← HTS.out] at c1; have c2 := (EnBlk.of HX4.out HR.out).body; rw [← HBS.out] at c2; clear hX4 hb4)
        | (go_at_call 24; (with_reducible refine (HNUM.out _).mono ?_); rintro x w3 ⟨rfl, hb3⟩; have hX3 := HX2.out.below hb3 HX2.out.lt; have HX3 := Lib.hid hX3; have HB3 := Lib.hid (HB2.out.trans (hb3.mono HB2.out.size)); clear c0 c1 c2; have c0 := (EnBlk.of HX3.out HR.out).k; rw [← HK.out] at c0; have c1 := (EnBlk.of HX3.out HR.out).topic; rw [← HTS.out] at c1; have c2 := (EnBlk.of HX3.out HR.out).body; rw [← HBS.out] at c2; clear hX3 hb3)
        | (go_at_call 25; (with_reducible refine (HHAS.out _).mono ?_); rintro x w5 ⟨rfl, rfl⟩)
        | (go_at_call 26; (with_reducible refine (inT.out _).mono ?_); rintro x w5 ⟨rfl, rfl⟩)
        | (go_at_call 26; (with_reducible refine (inC.out _).mono ?_); rintro x w5 ⟨rfl, rfl⟩)
        | (go_at_call 26; (with_reducible refine (inB.out _).mono ?_); rintro x w5 ⟨rfl, rfl⟩))
      go_ret2
      exact ⟨by rw [HE.out]; show Ending.returned (.tuple #[.string (t1 ++ t2 ++ ts ++ bs), .int .i64 0]) = _; rw [HEN.out, HBE.out, HT1.out, HT2.out, HTS.out, oct.tx_size, tx_cat, tx_cat, tx_nil, List.append_assoc]; rfl, HB4.out⟩
    · have inT := Lib.hid (in_lit p 84 84 rfl true (by rw [hp]; unfold hasB hasL; rw [hkk]; decide +kernel) (by rw [hp, has_size]; unfold hasL; rw [hkk]; decide))
      have inC := Lib.hid (in_lit p 67 67 rfl false (by rw [hp]; unfold hasB hasL; rw [hkk]; decide +kernel) (by rw [hp, has_size]; unfold hasL; rw [hkk]; decide))
      have inB := Lib.hid (in_lit p 66 66 rfl true (by rw [hp]; unfold hasB hasL; rw [hkk]; decide +kernel) (by rw [hp, has_size]; unfold hasL; rw [hkk]; decide))
      have htl : ts.size ≤ 12 := by rw [HTS.out, oct.tx_size]; exact htl
      have HNT := Lib.hid (opn.num1_r (ts.size : Int) (Int.natCast_nonneg _) (by omega))
      obtain ⟨t2, ht2⟩ : ∃ t, t = oct.tx (b1 (ts.size : Int)) := ⟨_, rfl⟩
      have hz2 : t2.size = 1 := by rw [ht2, oct.tx_size]; rfl
      rw [← ht2] at HNT
      have HT2 := Lib.hid ht2
      have HEN : Hid (enE e = b1 k ++ (txt e.topic ++ e.body)) := Lib.hid (by unfold enE tailE; rw [← HK.out, hkk]; rfl)
      clear he hkk hp ht2
      go_enter Tryd.func9, Tryd.ntmps9
      go_upto_region 1 with fail
      refine wp_at HW.out.symm ?_
      rw [← HS.out]
      clear HW
      go_wp2_with (first
        | ((with_reducible refine step_load (t := 25) (x := .tmp 1) (p := ?lplac4) (v := ?lvlac4) ?lglac4 ?lolac4 ?lxlac4 ?lrlac4 ?lhlac4); (case lglac4 => rfl); (case lolac4 => rfl); (case lxlac4 => rfl); (case lrlac4 => exact hld))
        | (go_at_call 11; (with_reducible refine HCK.out.mono ?_); rintro x w2 ⟨rfl, hb2⟩; have hX2 := HX.out.below hb2 HX.out.lt; have HX2 := Lib.hid hX2; have HB2 := Lib.hid (HB.out.trans (hb2.mono HB.out.size)); have c0 := (EnBlk.of HX2.out HR.out).k; rw [← HK.out] at c0; have c1 := (EnBlk.of HX2.out HR.out).topic; rw [← HTS.out] at c1; have c2 := (EnBlk.of HX2.out HR.out).body; rw [← HBS.out] at c2; clear hX2 hb2)
        | (go_at_call 24; (with_reducible refine (HNT.out _).mono ?_); rintro x w4 ⟨rfl, hb4⟩; have hX4 := HX3.out.below hb4 HX3.out.lt; have HX4 := Lib.hid hX4; have HB4 := Lib.hid (HB3.out.trans (hb4.mono HB3.out.size)); clear c0 c1 c2; have c0 := (EnBlk.of HX4.out HR.out).k; rw [← HK.out] at c0; have c1 := (EnBlk.of HX4.out HR.out).topic; rw [← HTS.out] at c1; have c2 := (EnBlk.of HX4.out HR.out).body; rw [← HBS.out] at c2; clear hX4 hb4)
        | (go_at_call 24; (with_reducible refine (HNUM.out _).mono ?_); rintro x w3 ⟨rfl, hb3⟩; have hX3 := HX2.out.below hb3 HX2.out.lt; have HX3 := Lib.hid hX3; have HB3 := Lib.hid (HB2.out.trans (hb3.mono HB2.out.size)); clear c0 c1 c2; have c0 := (EnBlk.of HX3.out HR.out).k; rw [← HK.out] at c0; have c1 := (EnBlk.of HX3.out HR.out).topic; rw [← HTS.out] at c1; have c2 := (EnBlk.of HX3.out HR.out).body; rw [← HBS.out] at c2; clear hX3 hb3)
        | (go_at_call 25; (with_reducible refine (HHAS.out _).mono ?_); rintro x w5 ⟨rfl, rfl⟩)
        | (go_at_call 26; (with_reducible refine (inT.out _).mono ?_); rintro x w5 ⟨rfl, rfl⟩)
        | (go_at_call 26; (with_reducible refine (inC.out _).mono ?_); rintro x w5 ⟨rfl, rfl⟩)
        | (go_at_call 26; (with_reducible refine (inB.out _).mono ?_); rintro x w5 ⟨rfl, rfl⟩))
      go_ret2
      exact ⟨by rw [HE.out]; show Ending.returned (.tuple #[.string (t1 ++ t2 ++ ts ++ bs), .int .i64 0]) = _; rw [HEN.out, HBS.out, HT1.out, HT2.out, HTS.out, oct.tx_size, tx_cat, tx_cat, tx_cat, List.append_assoc, List.append_assoc]; rfl, HB4.out⟩
  · have hne : (c != 0) = true := bne_iff_ne.2 h0
    have HE : Hid (putE e = ([], c)) := Lib.hid (by have := put_no (e := e) (by rw [HC.out]; exact h0); rw [this, HC.out])
    clear h0
    go_enter Tryd.func9, Tryd.ntmps9
    go_upto_region 1 with fail
    refine wp_at HW.out.symm ?_
    rw [← HS.out]
    clear HW
    go_wp2_with (first
      | ((with_reducible refine step_load (t := 25) (x := .tmp 1) (p := ?lplz) (v := ?lvlz) ?lglz ?lolz ?lxlz ?lrlz ?lhlz); (case lglz => rfl); (case lolz => rfl); (case lxlz => rfl); (case lrlz => exact hld))
      | (go_at_call 11; (with_reducible refine HCK.out.mono ?_); rintro x w2 ⟨rfl, hb2⟩))
    go_ret2
    exact ⟨by rw [HE.out]; rfl, HB.out.trans (hb2.mono HB.out.size)⟩
end Go.Proofs.YtbhkegdohiekfaaDoor.ent
