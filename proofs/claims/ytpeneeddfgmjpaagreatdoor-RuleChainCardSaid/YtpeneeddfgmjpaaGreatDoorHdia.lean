/-
  petrelref05.Kind: the kind of a topic's name.
  petrelref08.Check.
  petrelref08.Put.
  What petrelref02.Sum answers.
  petrelref08.Ident, Ahead.
-/
import Derived.Test.YtpeneeddfgmjpaaGreatDoorOpd
import Derived.Test.YtpeneeddfgmjpaaGreatDoorStrx
import Derived.Deep.RegionWith
import Derived.Laws.Concat
import Derived.Deep.CutRange
import Derived.Deep.CutBlock
import Derived.Test.YtpeneeddfgmjpaaGreatDoorHraw
import Derived.Deep.RegionHeld3
import Derived.Test.YtpeneeddfgmjpaaGreatDoorIda
import Derived.Test.YtpeneeddfgmjpaaGreatDoorHdm
namespace Go.Proofs.YtpeneeddfgmjpaaGreatDoor.topic
open Go.RowKit Go.Proofs.YtpeneeddfgmjpaaGreatDoor.mem Go.Proofs.YtpeneeddfgmjpaaGreatDoor.sha Go.Proofs.YtpeneeddfgmjpaaGreatDoor.strx

def lettersB : ByteArray := ⟨#[63, 99, 115, 108, 109, 114]⟩
theorem letters_any (w : World) : Calls Tryz.prog 57 #[] w fun e w' => e = .returned (.string lettersB) ∧ w = w' := by
 go_enter Tryz.func57, Tryz.ntmps57
 go_wp2
 go_ret
 exact ⟨rfl, rfl⟩
def lb (k : Nat) : UInt8 := [63, 99, 115, 108, 109, 114].getD k 0
theorem kindB_lb (c : UInt8) : ∀ k, 1 ≤ k → k ≤ 5 → (∀ j, 1 ≤ j → j < k → (B (lb j) == B c) = false) → (B (lb k) == B c) = true → kindB c = k := by
 intro k h1 h5 hj hk
 have hk' : B (lb k) = B c := by simpa using hk
 have hn : ∀ j, 1 ≤ j → j < k → B (lb j) ≠ B c := fun j a b => by simpa using hj j a b
 rcases (show k = 1 ∨ k = 2 ∨ k = 3 ∨ k = 4 ∨ k = 5 by omega) with rfl | rfl | rfl | rfl | rfl <;> (unfold kindB; rw [← hk']; rfl)
theorem kindB_none (c : UInt8) (hj : ∀ j, 1 ≤ j → j < 6 → (B (lb j) == B c) = false) : kindB c = 0 := by
 have hn : ∀ j, 1 ≤ j → j < 6 → B (lb j) ≠ B c := fun j a b => by simpa using hj j a b
 have h1 := hn 1 (by decide) (by decide)
 have h2 := hn 2 (by decide) (by decide)
 have h3 := hn 3 (by decide) (by decide)
 have h4 := hn 4 (by decide) (by decide)
 have h5 := hn 5 (by decide) (by decide)
 have e1 : B (lb 1) = 99 := rfl
 have e2 : B (lb 2) = 115 := rfl
 have e3 : B (lb 3) = 108 := rfl
 have e4 : B (lb 4) = 109 := rfl
 have e5 : B (lb 5) = 114 := rfl
 unfold kindB
 repeat' split
 all_goals omega

set_option maxHeartbeats 2000000 in
set_option maxRecDepth 100000 in
theorem rkind_any (s : ByteArray) (w : World) (hs : s.size ≤ 549755813888000) : Calls Tryz.prog 35 #[.string s] w fun e w' => e = .returned (.int .i64 (kindOf s.data.toList)) ∧ ∃ m, w' = w.drewN m := by
 have HL := Lib.hid (size_list s)
 by_cases c1 : s.size < 2
 ·
  have i1 : (s.size : Int) < 2 := by omega
  have hk := kindOf_short s.data.toList (by rw [← size_list]; exact c1)
  go_enter Tryz.func35, Tryz.ntmps35
  go_wp2_with fail
  go_ret
  exact ⟨by rw [hk]; rfl, 0, rfl⟩
 by_cases c2 : 12 < s.size
 ·
  have i1 : (2 : Int) ≤ (s.size : Int) := by omega
  have i2 : (12 : Int) < (s.size : Int) := by omega
  have hk := kindOf_long s.data.toList (by rw [← size_list]; exact c2)
  go_enter Tryz.func35, Tryz.ntmps35
  go_wp2_with fail
  go_ret
  exact ⟨by rw [hk]; rfl, 0, rfl⟩
 have i1 : (2 : Int) ≤ (s.size : Int) := by omega
 have i2 : (s.size : Int) ≤ 12 := by omega
 have hix := fun u : World => run_index_int s ((s.size : Int) - 1) (s.size - 1) (by omega) (by omega) u
 by_cases c3 : B (s.data.toList.getD (s.size - 1) 0) = 45
 ·
  have hk := kindOf_dash s.data.toList (by rw [← size_list]; exact c3)
  rw [c3] at hix
  go_enter Tryz.func35, Tryz.ntmps35
  go_wp2_with fail
  go_ret
  exact ⟨by rw [hk]; rfl, 0, rfl⟩
 have c3' : (B (s.data.toList.getD (s.size - 1) 0) == 45) = false := beq_eq_false_iff_ne.2 c3
 obtain ⟨z, hz⟩ : ∃ z, z = B (s.data.toList.getD (s.size - 1) 0) := ⟨_, rfl⟩
 rw [← hz] at hix c3'
 have HZ := Lib.hid hz
 have HC3 := Lib.hid c3
 clear hz c3
 go_enter Tryz.func35, Tryz.ntmps35
 go_wp2_with fail
 go_loopw [3] (fun i wr => ∃ k : Nat, 1 ≤ k ∧ k ≤ s.size ∧ i = .int .i64 k ∧ (∀ j, 1 ≤ j → j < k → okByte (s.data.toList.getD j 0) = true) ∧ wr = w) (fun i _ => s.size - (intOf i).toNat)
 case atStart => exact ⟨1, by decide, by omega, rfl, fun j _ _ => by omega, rfl⟩
 case round =>
  obtain ⟨k, k1, hk, rfl, hok, rfl⟩ := hrel
  have HOK := Lib.hid hok
  clear hok hix c3'
  have k0 : (0 : Int) ≤ (k : Int) := Int.natCast_nonneg _
  by_cases hlt : k < s.size
  ·
   have kI : (k : Int) < (s.size : Int) := by omega
   obtain ⟨x, hx1⟩ : ∃ x, x = s.data.toList.getD k 0 := ⟨_, rfl⟩
   have hidx := fun u : World => run_index_str s k hlt u
   rw [← hx1] at hidx
   have HX := Lib.hid hx1
   have HK : Hid (okByte x = false → kindOf s.data.toList = 0) := Lib.hid fun h => kindOf_bad _ k k1 (by rw [← size_list]; exact hlt) (by rw [← HX.out]; exact h)
   have HG : Hid (okByte x = true → ∀ j, 1 ≤ j → j < k + 1 → okByte (s.data.toList.getD j 0) = true) := Lib.hid fun h j a b => by
    rcases Nat.lt_or_ge j k with hj | hj
    ·
     exact HOK.out j a hj
    ·
     obtain rfl : j = k := by omega
     rw [← HX.out]; exact h
   clear hx1
   refine okByte_cases x _ (fun a b ho => ?_) (fun a b c ho => ?_) (fun a ho => ?_) (fun a b c ho => ?_) (fun a b c ho => ?_) (fun a b c ho => ?_)
   ·
    have HO := Lib.hid ho
    clear ho
    go_wp2_with fail
    exact ⟨⟨k + 1, by omega, hlt, by simp, HG.out HO.out, trivial⟩, by simp [intOf]; omega⟩
   ·
    have HO := Lib.hid ho
    clear ho
    go_wp2_with fail
    exact ⟨⟨k + 1, by omega, hlt, by simp, HG.out HO.out, trivial⟩, by simp [intOf]; omega⟩
   ·
    have HO := Lib.hid ho
    clear ho
    rw [a] at hidx
    go_wp2_with fail
    exact ⟨⟨k + 1, by omega, hlt, by simp, HG.out HO.out, trivial⟩, by simp [intOf]; omega⟩
   ·
    have HO := Lib.hid (HK.out ho)
    clear ho
    go_wp2_with fail
    go_ret
    exact ⟨by rw [HO.out]; rfl, 0, rfl⟩
   ·
    have HO := Lib.hid (HK.out ho)
    clear ho
    go_wp2_with fail
    go_ret
    exact ⟨by rw [HO.out]; rfl, 0, rfl⟩
   ·
    have HO := Lib.hid (HK.out ho)
    clear ho
    go_wp2_with fail
    go_ret
    exact ⟨by rw [HO.out]; rfl, 0, rfl⟩
  ·
   obtain rfl : k = s.size := by omega
   have HK : Hid (kindOf s.data.toList = kindB (s.data.toList.getD 0 0)) := Lib.hid (kindOf_good _ (by rw [← size_list]; omega) (by rw [← size_list]; omega) (by rw [← size_list]; exact HC3.out) (by rw [← size_list]; exact HOK.out))
   obtain ⟨x, hx1⟩ : ∃ x, x = s.data.toList.getD 0 0 := ⟨_, rfl⟩
   have hidx := fun u : World => run_index_int s 0 0 rfl (by omega) u
   rw [← hx1] at hidx HK
   clear hx1 hlt hk
   go_wp2_with fail
   go_loopw [5] (fun i wx => ∃ k : Nat, 1 ≤ k ∧ k ≤ 6 ∧ i = .int .i64 k ∧ (∀ j, 1 ≤ j → j < k → (B (lb j) == B x) = false) ∧ ∃ m, wx = wr.drewN m) (fun i _ => 6 - (intOf i).toNat)
   case atStart => exact ⟨1, by decide, by decide, rfl, fun j _ _ => by omega, 0, rfl⟩
   case round =>
    obtain ⟨k, k1, hk, rfl, hno, m, hwx⟩ := hrel
    have HN := Lib.hid hno
    have HW := Lib.hid hwx
    clear hno hwx
    by_cases hlt6 : k < 6
    ·
     have kI : (k : Int) ≤ 5 := by omega
     have k0 : (1 : Int) ≤ (k : Int) := by omega
     have hid2 := fun u : World => run_index_str lettersB k (by show k < 6; exact hlt6) u
     have hlb : lettersB.data.toList.getD k 0 = lb k := rfl
     rw [hlb] at hid2
     by_cases he : (B (lb k) == B x) = true
     ·
      have HE := Lib.hid (kindB_lb x k k1 (by omega) HN.out he)
      go_wp2_with fail
      go_quiet ((go_at_call 57; exact quiet_left (letters_any _)))
      go_wp2_with fail
      go_ret
      exact ⟨by rw [HK.out, HE.out]; rfl, m + nq, by rw [HW.out, World.drewN_drewN]⟩
     ·
      have he' : (B (lb k) == B x) = false := by simpa using he
      have HE : Hid (∀ j, 1 ≤ j → j < k + 1 → (B (lb j) == B x) = false) := Lib.hid fun j a b => by
       rcases Nat.lt_or_ge j k with hj | hj
       ·
        exact HN.out j a hj
       ·
        obtain rfl : j = k := by omega
        exact he'
      clear he
      go_wp2_with fail
      go_quiet ((go_at_call 57; exact quiet_left (letters_any _)))
      go_wp2_with fail
      exact ⟨⟨k + 1, by omega, hlt6, by simp, HE.out, m + nq, by rw [HW.out, World.drewN_drewN]⟩, by simp [intOf]; omega⟩
    ·
     obtain rfl : k = 6 := by omega
     have HE := Lib.hid (kindB_none x HN.out)
     go_wp2_with fail
     go_ret
     exact ⟨by rw [HK.out, HE.out]; rfl, m, HW.out⟩

theorem bt_beq (a b : List UInt8) : ((bt a).toList == (bt b).toList) = decide (a = b) := by
 have ha : (bt a).toList = a := ByteArray.toList_eq _
 have hb : (bt b).toList = b := ByteArray.toList_eq _
 rw [ha, hb, Bool.eq_iff_iff, beq_iff_eq, decide_eq_true_iff]
end Go.Proofs.YtpeneeddfgmjpaaGreatDoor.topic

namespace Go.Proofs.YtpeneeddfgmjpaaGreatDoor.hdr
open Go.RowKit Go.Proofs.YtpeneeddfgmjpaaGreatDoor.mem Go.Proofs.YtpeneeddfgmjpaaGreatDoor.sha Go.Proofs.YtpeneeddfgmjpaaGreatDoor.ids
open Go.Proofs.YtpeneeddfgmjpaaGreatDoor.opn (b1 b2 b4 num txt idl byte rd rdN rdT rdI rdS rdL St Reads Stays endE zid mkId)

theorem tx_bt (l : List UInt8) : oct.tx l = strx.bt l := rfl
theorem rkind_h (h : Hd) (ht : h.topic.length ≤ 140737488351232) (u : World) : Calls Tryz.prog 35 #[.string (oct.tx h.topic)] u fun e w' => e = .returned (.int .i64 (topic.kindOf h.topic)) ∧ ∃ m, w' = u.drewN m := by
 have := topic.rkind_any (oct.tx h.topic) u (by rw [oct.tx_size]; omega)
 rw [oct.tx_list] at this
 exact this
set_option maxHeartbeats 4000000 in
set_option maxRecDepth 100000 in
theorem check_any (h : Hd) (v : Value) (w : World) (hr : h.commit.length = 32) (hv : RdV w v h.parents) (hm : h.parents.length ≤ 1000) (ht : h.topic.length ≤ 140737488351232) :
  Calls Tryz.prog 23 #[hdv h v] w fun e w' => e = .returned (.int .i64 (checkH h)) ∧ Below w.heap.size w w' := by
 obtain ⟨w1, hw1⟩ : ∃ u, u = w.alloc (.cells (hdc h v).toArray 26) := ⟨_, rfl⟩
 obtain ⟨S, hS⟩ : ∃ S, S = w.heap.size := ⟨_, rfl⟩
 have hX : Blk w1 S 26 (hdc h v).toArray := by rw [hw1, hS]; exact Blk.new w _ _
 have hB : Below w.heap.size w w1 := by rw [hw1]; exact (Below.refl _ _).alloc (Nat.le_refl _) _
 have hv1 := hv.next hB
 have HX := Lib.hid hX
 have HB := Lib.hid hB
 have HS := Lib.hid hS
 have HW := Lib.hid hw1
 have HR := Lib.hid hr
 have HV := Lib.hid hv1
 have HL := Lib.hid hm
 obtain ⟨ad, cap, hvf⟩ := hv1.form
 have c0 := (HdBlk.of hX hr).parents
 rw [hvf] at c0
 have hIs := ris_any h.parents ad _ cap w1 (hvf ▸ hv1) (by omega)
 obtain ⟨ln, hln⟩ : ∃ n, n = h.parents.length := ⟨_, rfl⟩
 rw [← hln] at c0 hIs
 have HLN := Lib.hid hln
 have hk := rkind_h h ht
 have HT := Lib.hid hk
 have HCK : Hid (checkH h = if 4 < h.parents.length then 6 else if (h.parents == setL h.parents) = false then 4 else if badHeight h then 12 else if topic.kindOf h.topic = 0 then 9 else if badRange h then 5 else 0) := Lib.hid rfl
 obtain ⟨b, hb⟩ : ∃ b, (h.parents == setL h.parents) = b := ⟨_, rfl⟩
 rw [hb] at hIs HCK
 have HIS := Lib.hid hIs
 clear hX hB hv1 hS hw1 hr hv hm ht hvf hIs hln hk hb
 unfold hdv
 by_cases h4 : 4 < h.parents.length
 ·
  have i1 : (4 : Int) < (ln : Int) := by rw [HLN.out]; omega
  have HE : Hid (checkH h = 6) := Lib.hid (by rw [HCK.out, if_pos h4])
  clear h4
  go_enter Tryz.func23, Tryz.ntmps23
  go_upto_region 1 with fail
  refine wp_at HW.out.symm ?_
  rw [← HS.out]
  clear HW
  go_wp2_with fail
  go_ret
  exact ⟨by rw [HE.out]; rfl, HB.out⟩
 have i1 : (ln : Int) ≤ 4 := by rw [HLN.out]; omega
 have HCK : Hid (_ = _) := Lib.hid HCK.out
 rw [if_neg h4] at HCK
 clear h4
 cases b with
 | false =>
  have HE : Hid (checkH h = 4) := Lib.hid (by rw [HCK.out]; rfl)
  go_enter Tryz.func23, Tryz.ntmps23
  go_upto_region 1 with fail
  refine wp_at HW.out.symm ?_
  rw [← HS.out]
  clear HW
  go_wp2_with (go_at_call 34; (with_reducible refine HIS.out.mono ?_); rintro e w3 ⟨rfl, hb3⟩)
  go_ret
  exact ⟨by rw [HE.out]; rfl, HB.out.trans (hb3.mono HB.out.size)⟩
 | true =>
  have HCK : Hid (_ = _) := Lib.hid HCK.out
  rw [if_neg (show ¬ (true = false) by decide)] at HCK
  go_enter Tryz.func23, Tryz.ntmps23
  go_upto_region 1 with fail
  refine wp_at HW.out.symm ?_
  rw [← HS.out]
  clear HW
  go_upto_region 5 with (go_at_call 34; (with_reducible refine HIS.out.mono ?_); rintro e w3 ⟨rfl, hb3⟩; have hX3 := HX.out.below hb3 HX.out.lt; have C3 := HdBlk.of hX3 HR.out; have d0 := c0; rw [← World.cell?_of_block (w := w1) (w' := w3) (a := ⟨S, 0, none⟩) (hb3.block S HX.out.lt)] at d0; have d1 := C3.height; have d2 := C3.topic; have d3 := C3.author; have d4 := C3.seq; have d5 := C3.size; have HB3 := Lib.hid (HB.out.trans (hb3.mono HB.out.size)); clear C3 hX3 hb3)
  obtain ⟨ht, hht⟩ : ∃ x, x = h.height := ⟨_, rfl⟩
  obtain ⟨au, hau⟩ : ∃ x, x = h.author := ⟨_, rfl⟩
  obtain ⟨sq, hsq⟩ : ∃ x, x = h.seq := ⟨_, rfl⟩
  obtain ⟨sz, hsz⟩ : ∃ x, x = h.size := ⟨_, rfl⟩
  obtain ⟨ts, hts⟩ : ∃ x, x = oct.tx h.topic := ⟨_, rfl⟩
  rw [← hht] at d1
  rw [← hts] at d2 HT
  rw [← hau] at d3
  rw [← hsq] at d4
  rw [← hsz] at d5
  have HBH : Hid (badHeight h ↔ ht < 1 ∨ 1073741824 < ht ∨ ¬ (ln = 0 ↔ ht = 1)) := Lib.hid (by rw [hht, HLN.out]; rfl)
  have HBR : Hid (badRange h ↔ au < 0 ∨ 255 < au ∨ sq < 1 ∨ 1073741824 < sq ∨ sz < 1 ∨ 512 < sz) := Lib.hid (by rw [hau, hsq, hsz]; rfl)
  clear hht hau hsq hsz hts c0
  by_cases n1 : ht < 1
  ·
   have HE : Hid (checkH h = 12) := Lib.hid (by rw [HCK.out, if_pos (HBH.out.2 (.inl n1))])
   go_wp2_with fail
   go_ret
   exact ⟨by rw [HE.out]; rfl, HB3.out⟩
  have n1 : 1 ≤ ht := by omega
  by_cases n2 : 1073741824 < ht
  ·
   have HE : Hid (checkH h = 12) := Lib.hid (by rw [HCK.out, if_pos (HBH.out.2 (.inr (.inl n2)))])
   go_wp2_with fail
   go_ret
   exact ⟨by rw [HE.out]; rfl, HB3.out⟩
  have n2 : ht ≤ 1073741824 := by omega
  by_cases z0 : ln = 0
  ·
   by_cases z1 : ht = 1
   ·
    have e1 : ((ln : Int) == 0) = true := beq_iff_eq.2 (by omega)
    have e2 : (ht == 1) = true := beq_iff_eq.2 (by omega)
    have HCK : Hid (_ = _) := Lib.hid HCK.out
    rw [if_neg (fun hh => by have := HBH.out.1 hh; omega)] at HCK
    clear z0 z1
    by_cases k0 : topic.kindOf h.topic = 0
    ·
     have HE : Hid (checkH h = 9) := Lib.hid (by rw [HCK.out, if_pos k0])
     have HT := Lib.hid HT.out
     rw [k0] at HT
     clear k0
     go_wp2_with (go_at_call 35; (with_reducible refine (HT.out _).mono ?_); rintro e w4 ⟨rfl, m, rfl⟩)
     go_ret
     exact ⟨by rw [HE.out]; rfl, below_drewN HB3.out m⟩
    have HCK : Hid (_ = _) := Lib.hid HCK.out
    rw [if_neg k0] at HCK
    obtain ⟨kk, hkk⟩ : ∃ x, x = topic.kindOf h.topic := ⟨_, rfl⟩
    have HT := Lib.hid HT.out
    rw [← hkk] at HT k0
    have k1 : ((kk : Int) == 0) = false := beq_eq_false_iff_ne.2 (by omega)
    clear hkk k0
    go_upto_region 9 with (go_at_call 35; (with_reducible refine (HT.out _).mono ?_); rintro e w4 ⟨rfl, m, rfl⟩)
    by_cases r0 : au < 0
    ·
     have HE : Hid (checkH h = 5) := Lib.hid (by rw [HCK.out, if_pos (HBR.out.2 (by omega))])
     go_wp2_with fail
     go_ret
     exact ⟨by rw [HE.out]; rfl, below_drewN HB3.out m⟩
    have r0 : 0 ≤ au := by omega
    by_cases r1 : 255 < au
    ·
     have HE : Hid (checkH h = 5) := Lib.hid (by rw [HCK.out, if_pos (HBR.out.2 (by omega))])
     go_wp2_with fail
     go_ret
     exact ⟨by rw [HE.out]; rfl, below_drewN HB3.out m⟩
    have r1 : au ≤ 255 := by omega
    by_cases r2 : sq < 1
    ·
     have HE : Hid (checkH h = 5) := Lib.hid (by rw [HCK.out, if_pos (HBR.out.2 (by omega))])
     go_wp2_with fail
     go_ret
     exact ⟨by rw [HE.out]; rfl, below_drewN HB3.out m⟩
    have r2 : 1 ≤ sq := by omega
    by_cases r3 : 1073741824 < sq
    ·
     have HE : Hid (checkH h = 5) := Lib.hid (by rw [HCK.out, if_pos (HBR.out.2 (by omega))])
     go_wp2_with fail
     go_ret
     exact ⟨by rw [HE.out]; rfl, below_drewN HB3.out m⟩
    have r3 : sq ≤ 1073741824 := by omega
    by_cases r4 : sz < 1
    ·
     have HE : Hid (checkH h = 5) := Lib.hid (by rw [HCK.out, if_pos (HBR.out.2 (by omega))])
     go_wp2_with fail
     go_ret
     exact ⟨by rw [HE.out]; rfl, below_drewN HB3.out m⟩
    have r4 : 1 ≤ sz := by omega
    by_cases r5 : 512 < sz
    ·
     have HE : Hid (checkH h = 5) := Lib.hid (by rw [HCK.out, if_pos (HBR.out.2 (by omega))])
     go_wp2_with fail
     go_ret
     exact ⟨by rw [HE.out]; rfl, below_drewN HB3.out m⟩
    have r5 : sz ≤ 512 := by omega
    have HE : Hid (checkH h = 0) := Lib.hid (by rw [HCK.out, if_neg (fun hh => by have := HBR.out.1 hh; omega)])
    go_wp2_with fail
    go_ret
    exact ⟨by rw [HE.out]; rfl, below_drewN HB3.out m⟩
   ·
    have e1 : ((ln : Int) == 0) = true := beq_iff_eq.2 (by omega)
    have e2 : (ht == 1) = false := beq_eq_false_iff_ne.2 (by omega)
    have HE : Hid (checkH h = 12) := Lib.hid (by rw [HCK.out, if_pos (HBH.out.2 (.inr (.inr (by omega))))])
    clear z0 z1
    go_wp2_with fail
    go_ret
    exact ⟨by rw [HE.out]; rfl, HB3.out⟩
  ·
   by_cases z1 : ht = 1
   ·
    have e1 : ((ln : Int) == 0) = false := beq_eq_false_iff_ne.2 (by omega)
    have e2 : (ht == 1) = true := beq_iff_eq.2 (by omega)
    have HE : Hid (checkH h = 12) := Lib.hid (by rw [HCK.out, if_pos (HBH.out.2 (.inr (.inr (by omega))))])
    clear z0 z1
    go_wp2_with fail
    go_ret
    exact ⟨by rw [HE.out]; rfl, HB3.out⟩
   ·
    have e1 : ((ln : Int) == 0) = false := beq_eq_false_iff_ne.2 (by omega)
    have e2 : (ht == 1) = false := beq_eq_false_iff_ne.2 (by omega)
    have HCK : Hid (_ = _) := Lib.hid HCK.out
    rw [if_neg (fun hh => by have := HBH.out.1 hh; omega)] at HCK
    clear z0 z1
    by_cases k0 : topic.kindOf h.topic = 0
    ·
     have HE : Hid (checkH h = 9) := Lib.hid (by rw [HCK.out, if_pos k0])
     have HT := Lib.hid HT.out
     rw [k0] at HT
     clear k0
     go_wp2_with (go_at_call 35; (with_reducible refine (HT.out _).mono ?_); rintro e w4 ⟨rfl, m, rfl⟩)
     go_ret
     exact ⟨by rw [HE.out]; rfl, below_drewN HB3.out m⟩
    have HCK : Hid (_ = _) := Lib.hid HCK.out
    rw [if_neg k0] at HCK
    obtain ⟨kk, hkk⟩ : ∃ x, x = topic.kindOf h.topic := ⟨_, rfl⟩
    have HT := Lib.hid HT.out
    rw [← hkk] at HT k0
    have k1 : ((kk : Int) == 0) = false := beq_eq_false_iff_ne.2 (by omega)
    clear hkk k0
    go_upto_region 9 with (go_at_call 35; (with_reducible refine (HT.out _).mono ?_); rintro e w4 ⟨rfl, m, rfl⟩)
    by_cases r0 : au < 0
    ·
     have HE : Hid (checkH h = 5) := Lib.hid (by rw [HCK.out, if_pos (HBR.out.2 (by omega))])
     go_wp2_with fail
     go_ret
     exact ⟨by rw [HE.out]; rfl, below_drewN HB3.out m⟩
    have r0 : 0 ≤ au := by omega
    by_cases r1 : 255 < au
    ·
     have HE : Hid (checkH h = 5) := Lib.hid (by rw [HCK.out, if_pos (HBR.out.2 (by omega))])
     go_wp2_with fail
     go_ret
     exact ⟨by rw [HE.out]; rfl, below_drewN HB3.out m⟩
    have r1 : au ≤ 255 := by omega
    by_cases r2 : sq < 1
    ·
     have HE : Hid (checkH h = 5) := Lib.hid (by rw [HCK.out, if_pos (HBR.out.2 (by omega))])
     go_wp2_with fail
     go_ret
     exact ⟨by rw [HE.out]; rfl, below_drewN HB3.out m⟩
    have r2 : 1 ≤ sq := by omega
    by_cases r3 : 1073741824 < sq
    ·
     have HE : Hid (checkH h = 5) := Lib.hid (by rw [HCK.out, if_pos (HBR.out.2 (by omega))])
     go_wp2_with fail
     go_ret
     exact ⟨by rw [HE.out]; rfl, below_drewN HB3.out m⟩
    have r3 : sq ≤ 1073741824 := by omega
    by_cases r4 : sz < 1
    ·
     have HE : Hid (checkH h = 5) := Lib.hid (by rw [HCK.out, if_pos (HBR.out.2 (by omega))])
     go_wp2_with fail
     go_ret
     exact ⟨by rw [HE.out]; rfl, below_drewN HB3.out m⟩
    have r4 : 1 ≤ sz := by omega
    by_cases r5 : 512 < sz
    ·
     have HE : Hid (checkH h = 5) := Lib.hid (by rw [HCK.out, if_pos (HBR.out.2 (by omega))])
     go_wp2_with fail
     go_ret
     exact ⟨by rw [HE.out]; rfl, below_drewN HB3.out m⟩
    have r5 : sz ≤ 512 := by omega
    have HE : Hid (checkH h = 0) := Lib.hid (by rw [HCK.out, if_neg (fun hh => by have := HBR.out.1 hh; omega)])
    go_wp2_with fail
    go_ret
    exact ⟨by rw [HE.out]; rfl, below_drewN HB3.out m⟩
end Go.Proofs.YtpeneeddfgmjpaaGreatDoor.hdr

namespace Go.Proofs.YtpeneeddfgmjpaaGreatDoor.hdr
open Go.RowKit Go.Proofs.YtpeneeddfgmjpaaGreatDoor.mem Go.Proofs.YtpeneeddfgmjpaaGreatDoor.sha Go.Proofs.YtpeneeddfgmjpaaGreatDoor.ids
open Go.Proofs.YtpeneeddfgmjpaaGreatDoor.opn (b1 b2 b4 num txt idl byte rd rdN rdT rdI rdS rdL St Reads Stays endE zid mkId)

theorem ld_int {w : World} {a : Addr} {n : Int} (h : w.cell? a = some (.int .i64 n)) : (Instr.loadAt 3 (.pointer (some a))).run Tryz.prog w = .ok (.int .i64 n) w := by go_simp
theorem ld_str {w : World} {a : Addr} {s : ByteArray} (h : w.cell? a = some (.string s)) : (Instr.loadAt 9 (.pointer (some a))).run Tryz.prog w = .ok (.string s) w := by go_simp
theorem ld_ids {w : World} {a : Addr} {v : Value} (h : w.cell? a = some v) : (Instr.loadAt 22 (.pointer (some a))).run Tryz.prog w = .ok v w := by go_simp
structure PutS (w1 : World) (S : Nat) (h : Hd) (v : Value) (u : World) : Prop where
 blk : HdBlk u S h v
 low : S < u.heap.size
 row : ∃ t, Blk u S t (hdc h v).toArray
 rd : RdV u v h.parents
 below : Below w1.heap.size w1 u
theorem PutS.next {w1 : World} {S : Nat} {h : Hd} {v : Value} {u u' : World} (hr : h.commit.length = 32) (a : PutS w1 S h v u) (hb : Below u.heap.size u u') : PutS w1 S h v u' := by
 obtain ⟨t, hrow⟩ := a.row
 have hrow' := hrow.below hb hrow.lt
 exact ⟨HdBlk.of hrow' hr, hrow'.lt, ⟨t, hrow'⟩, a.rd.next hb, a.below.trans (hb.mono a.below.size)⟩
theorem tx_app3 (a b : List UInt8) : oct.tx (a ++ b) = oct.tx a ++ oct.tx b := (opn.tx_app a b).symm

set_option maxHeartbeats 4000000 in
set_option maxRecDepth 100000 in
theorem put_any (h : Hd) (v : Value) (w : World) (hr : h.commit.length = 32) (hv : RdV w v h.parents) (hm : h.parents.length ≤ 1000) (ht : h.topic.length ≤ 140737488351232) :
  Calls Tryz.prog 40 #[hdv h v] w fun e w' => e = .returned (.tuple #[.string (oct.tx (putH h).1), .int .i64 (putH h).2]) ∧ Below w.heap.size w w' := by
 obtain ⟨w1, hw1⟩ : ∃ u, u = w.alloc (.cells (hdc h v).toArray 26) := ⟨_, rfl⟩
 obtain ⟨S, hS⟩ : ∃ S, S = w.heap.size := ⟨_, rfl⟩
 have hX : Blk w1 S 26 (hdc h v).toArray := by rw [hw1, hS]; exact Blk.new w _ _
 have hB : Below w.heap.size w w1 := by rw [hw1]; exact (Below.refl _ _).alloc (Nat.le_refl _) _
 have hv1 := hv.next hB
 have HX := Lib.hid hX
 have HB := Lib.hid hB
 have HS := Lib.hid hS
 have HW := Lib.hid hw1
 have HR := Lib.hid hr
 have HV := Lib.hid hv1
 have HL := Lib.hid hm
 have HLD := Lib.hid (run_load_hd hX hr)
 have hck := check_any h v w1 hr hv1 hm ht
 have hput : putH h = if checkH h ≠ 0 then ([], checkH h) else (enH h, 0) := rfl
 obtain ⟨c, hc⟩ : ∃ c, checkH h = c := ⟨_, rfl⟩
 rw [hc] at hck hput
 have HCK := Lib.hid hck
 have HC := Lib.hid hc
 have HP := Lib.hid hput
 have hps : PutS w1 S h v w1 := ⟨HdBlk.of hX hr, hX.lt, ⟨_, hX⟩, hv1, Below.refl _ _⟩
 have HPS := Lib.hid hps
 clear hX hB hv1 hS hw1 hr hv hm ht hck hc hput hps
 unfold hdv
 by_cases h0 : c = 0
 ·
  subst h0
  have hC := HC.out
  obtain ⟨g0, g1, g2, g3, g4⟩ := check_parts hC
  have FIT := Lib.hid (fitsH hC HR.out HV.out.ok)
  have htl := (topic.kindOf_pos _ g3).2.1
  have HE : Hid (putH h = (enH h, 0)) := Lib.hid (by rw [HP.out, if_neg (by simp)])
  obtain ⟨s0, hs0⟩ : ∃ s, s = oct.tx (idl h.parents) := ⟨_, rfl⟩
  obtain ⟨s1, hs1⟩ : ∃ s, s = oct.tx (b4 h.height) := ⟨_, rfl⟩
  obtain ⟨s2, hs2⟩ : ∃ s, s = oct.tx (b1 h.topic.length) := ⟨_, rfl⟩
  obtain ⟨ts, hts⟩ : ∃ s, s = oct.tx h.topic := ⟨_, rfl⟩
  obtain ⟨s3, hs3⟩ : ∃ s, s = oct.tx (b1 h.author) := ⟨_, rfl⟩
  obtain ⟨s4, hs4⟩ : ∃ s, s = oct.tx (b4 h.seq) := ⟨_, rfl⟩
  obtain ⟨s5, hs5⟩ : ∃ s, s = oct.tx (b2 h.size) := ⟨_, rfl⟩
  obtain ⟨s6, hs6⟩ : ∃ s, s = oct.tx h.commit := ⟨_, rfl⟩
  have hpl : (idl h.parents).length ≤ 129 := by unfold idl; rw [List.length_append, opn.b1_len, flatH HV.out.ok]; omega
  have z0 : s0.size ≤ 129 := by rw [hs0, oct.tx_size]; exact hpl
  have z1 : s1.size = 4 := by rw [hs1, oct.tx_size]; rfl
  have z2 : s2.size = 1 := by rw [hs2, oct.tx_size]; rfl
  have zt : ts.size ≤ 12 := by rw [hts, oct.tx_size]; exact htl
  have z3 : s3.size = 1 := by rw [hs3, oct.tx_size]; rfl
  have z4 : s4.size = 4 := by rw [hs4, oct.tx_size]; rfl
  have z5 : s5.size = 2 := by rw [hs5, oct.tx_size]; rfl
  have z6 : s6.size = 32 := by rw [hs6, oct.tx_size]; exact HR.out
  have HALL : Hid (s0 ++ s1 ++ s2 ++ ts ++ s3 ++ s4 ++ s5 ++ s6 = oct.tx (enH h)) := Lib.hid (by
   rw [hs0, hs1, hs2, hts, hs3, hs4, hs5, hs6]
   unfold enH txt
   simp only [opn.tx_app, List.append_assoc])
  have hcI : ∀ u, PutS w1 S h v u → Calls Tryz.prog 72 #[v] u fun e w' => e = .returned (.string s0) ∧ Below u.heap.size u w' := fun u hu => by
   obtain ⟨ad, cap, hvf⟩ := hu.rd.form
   rw [hvf, hs0]
   exact opn.ids_any h.parents ad _ cap u (hvf ▸ hu.rd) (by omega)
  have HCI := Lib.hid hcI
  have f := FIT.out
  have HN1 := Lib.hid (fun u => num4_h h.height f.height.1 f.height.2 u)
  have HN2 := Lib.hid (fun u => num1_h (ts.size : Int) (by omega) (by omega) u)
  rw [show opn.b1 (ts.size : Int) = b1 h.topic.length by rw [hts, oct.tx_size], ← hs2] at HN2
  have HN3 := Lib.hid (fun u => num1_h h.author f.author.1 f.author.2 u)
  have HN4 := Lib.hid (fun u => num4_h h.seq f.seq.1 f.seq.2 u)
  have HN5 := Lib.hid (fun u => num2_h h.size f.size.1 f.size.2 u)
  have HN6 := Lib.hid (fun u => raw_any h.commit u HR.out)
  rw [← hs1] at HN1
  rw [← hs3] at HN3
  rw [← hs4] at HN4
  rw [← hs5] at HN5
  rw [← hs6] at HN6
  have HTS := Lib.hid hts
  have a1 : ¬ 9223372036854775807 < s0.size + s1.size := by omega
  have a2 : ¬ 9223372036854775807 < s0.size + s1.size + s2.size := by omega
  have a3 : ¬ 9223372036854775807 < s0.size + s1.size + s2.size + ts.size := by omega
  have a4 : ¬ 9223372036854775807 < s0.size + s1.size + s2.size + ts.size + s3.size := by omega
  have a5 : ¬ 9223372036854775807 < s0.size + s1.size + s2.size + ts.size + s3.size + s4.size := by omega
  have a6 : ¬ 9223372036854775807 < s0.size + s1.size + s2.size + ts.size + s3.size + s4.size + s5.size := by omega
  have a7 : ¬ 9223372036854775807 < s0.size + s1.size + s2.size + ts.size + s3.size + s4.size + s5.size + s6.size := by omega
  clear hC g0 g1 g2 g3 g4 htl hs0 hs1 hs2 hts hs3 hs4 hs5 hs6 hpl hcI f z0 z1 z2 zt z3 z4 z5 z6 HP HC
  go_enter Tryz.func40, Tryz.ntmps40
  go_upto_region 1 with fail
  refine wp_at HW.out.symm ?_
  rw [← HS.out]
  clear HW
  go_upto_region 4 with (first
   | ((with_reducible refine step_load (t := 26) (x := .tmp 1) (p := ?lpd1) (v := ?lvd1) ?lgd1 ?lod1 ?lxd1 ?lrd1 ?lhd1); (case lgd1 => rfl); (case lod1 => rfl); (case lxd1 => rfl); (case lrd1 => exact HLD.out))
   | (go_at_call 23; (with_reducible refine HCK.out.mono ?_); rintro e w2 ⟨rfl, hb2⟩; have H2 := Lib.hid (HPS.out.next HR.out hb2); clear hb2))
  refine wp_region_held_drew (S := PutS w1 S h v) (by kernel_rfl) ?_ (fun hHeld => ?_)
  ·
   exact H2.out.next HR.out ((Below.refl _ _).drew)
  refine' wpAnyH_take (i := 0) ?hihp0 (by kernel_rfl) (by kernel_rfl) (by kernel_rfl) ?hqhp0 (Or.inl ⟨?hwhp0, ?hyhp0⟩) (by assumption) ?hrhp0
  case hihp0 => (simp only [List.getElem?_toArray, List.getElem?_cons_succ, List.getElem?_cons_zero]; rfl)
  case hqhp0 => exact fun _ _ _ h => h
  case hwhp0 => rfl
  case hyhp0 => (intro w0 hSw; (try dsimp only at hSw); go_simp; try with_reducible rfl)
  (try simp only [Act.put, List.setIfInBounds_toArray, List.set_cons_zero, List.set_cons_succ])
  refine' wpAnyH_take (i := 1) ?hihp1 (by kernel_rfl) (by kernel_rfl) (by kernel_rfl) ?hqhp1 (Or.inl ⟨?hwhp1, ?hyhp1⟩) (by assumption) ?hrhp1
  case hihp1 => (simp only [List.getElem?_toArray, List.getElem?_cons_succ, List.getElem?_cons_zero]; rfl)
  case hqhp1 => exact fun _ _ _ h => h
  case hwhp1 => rfl
  case hyhp1 => exact fun w0 hSw => run_exec_load rfl rfl (ld_ids hSw.blk.parents)
  (try simp only [Act.put, List.setIfInBounds_toArray, List.set_cons_zero, List.set_cons_succ])
  refine' wpAnyH_take (i := 3) ?hihp3 (by kernel_rfl) (by kernel_rfl) (by kernel_rfl) ?hqhp3 (Or.inl ⟨?hwhp3, ?hyhp3⟩) (by assumption) ?hrhp3
  case hihp3 => (simp only [List.getElem?_toArray, List.getElem?_cons_succ, List.getElem?_cons_zero]; rfl)
  case hqhp3 => exact fun _ _ _ h => h
  case hwhp3 => rfl
  case hyhp3 => (intro w0 hSw; (try dsimp only at hSw); go_simp; try with_reducible rfl)
  (try simp only [Act.put, List.setIfInBounds_toArray, List.set_cons_zero, List.set_cons_succ])
  refine' wpAnyH_take (i := 4) ?hihp4 (by kernel_rfl) (by kernel_rfl) (by kernel_rfl) ?hqhp4 (Or.inl ⟨?hwhp4, ?hyhp4⟩) (by assumption) ?hrhp4
  case hihp4 => (simp only [List.getElem?_toArray, List.getElem?_cons_succ, List.getElem?_cons_zero]; rfl)
  case hqhp4 => exact fun _ _ _ h => h
  case hwhp4 => rfl
  case hyhp4 => exact fun w0 hSw => run_exec_load rfl rfl (ld_int hSw.blk.height)
  (try simp only [Act.put, List.setIfInBounds_toArray, List.set_cons_zero, List.set_cons_succ])
  refine' wpAnyH_take (i := 7) ?hihp7 (by kernel_rfl) (by kernel_rfl) (by kernel_rfl) ?hqhp7 (Or.inl ⟨?hwhp7, ?hyhp7⟩) (by assumption) ?hrhp7
  case hihp7 => (simp only [List.getElem?_toArray, List.getElem?_cons_succ, List.getElem?_cons_zero]; rfl)
  case hqhp7 => exact fun _ _ _ h => h
  case hwhp7 => rfl
  case hyhp7 => (intro w0 hSw; (try dsimp only at hSw); go_simp; try with_reducible rfl)
  (try simp only [Act.put, List.setIfInBounds_toArray, List.set_cons_zero, List.set_cons_succ])
  refine' wpAnyH_take (i := 8) ?hihp8 (by kernel_rfl) (by kernel_rfl) (by kernel_rfl) ?hqhp8 (Or.inl ⟨?hwhp8, ?hyhp8⟩) (by assumption) ?hrhp8
  case hihp8 => (simp only [List.getElem?_toArray, List.getElem?_cons_succ, List.getElem?_cons_zero]; rfl)
  case hqhp8 => exact fun _ _ _ h => h
  case hwhp8 => rfl
  case hyhp8 => exact fun w0 hSw => run_exec_load rfl rfl (ld_str (s := ts) (by rw [HTS.out]; exact hSw.blk.topic))
  (try simp only [Act.put, List.setIfInBounds_toArray, List.set_cons_zero, List.set_cons_succ])
  refine' wpAnyH_take (i := 9) ?hihp9 (by kernel_rfl) (by kernel_rfl) (by kernel_rfl) ?hqhp9 (Or.inl ⟨?hwhp9, ?hyhp9⟩) (by assumption) ?hrhp9
  case hihp9 => (simp only [List.getElem?_toArray, List.getElem?_cons_succ, List.getElem?_cons_zero]; rfl)
  case hqhp9 => exact fun _ _ _ h => h
  case hwhp9 => rfl
  case hyhp9 => (intro w0 hSw; (try dsimp only at hSw); go_simp; try with_reducible rfl)
  (try simp only [Act.put, List.setIfInBounds_toArray, List.set_cons_zero, List.set_cons_succ])
  refine' wpAnyH_take (i := 12) ?hihp12 (by kernel_rfl) (by kernel_rfl) (by kernel_rfl) ?hqhp12 (Or.inl ⟨?hwhp12, ?hyhp12⟩) (by assumption) ?hrhp12
  case hihp12 => (simp only [List.getElem?_toArray, List.getElem?_cons_succ, List.getElem?_cons_zero]; rfl)
  case hqhp12 => exact fun _ _ _ h => h
  case hwhp12 => rfl
  case hyhp12 => (intro w0 hSw; (try dsimp only at hSw); go_simp; try with_reducible rfl)
  (try simp only [Act.put, List.setIfInBounds_toArray, List.set_cons_zero, List.set_cons_succ])
  refine' wpAnyH_take (i := 13) ?hihp13 (by kernel_rfl) (by kernel_rfl) (by kernel_rfl) ?hqhp13 (Or.inl ⟨?hwhp13, ?hyhp13⟩) (by assumption) ?hrhp13
  case hihp13 => (simp only [List.getElem?_toArray, List.getElem?_cons_succ, List.getElem?_cons_zero]; rfl)
  case hqhp13 => exact fun _ _ _ h => h
  case hwhp13 => rfl
  case hyhp13 => exact fun w0 hSw => run_exec_load rfl rfl (ld_str (s := ts) (by rw [HTS.out]; exact hSw.blk.topic))
  (try simp only [Act.put, List.setIfInBounds_toArray, List.set_cons_zero, List.set_cons_succ])
  refine' wpAnyH_take (i := 15) ?hihp15 (by kernel_rfl) (by kernel_rfl) (by kernel_rfl) ?hqhp15 (Or.inl ⟨?hwhp15, ?hyhp15⟩) (by assumption) ?hrhp15
  case hihp15 => (simp only [List.getElem?_toArray, List.getElem?_cons_succ, List.getElem?_cons_zero]; rfl)
  case hqhp15 => exact fun _ _ _ h => h
  case hwhp15 => rfl
  case hyhp15 => (intro w0 hSw; (try dsimp only at hSw); go_simp; try with_reducible rfl)
  (try simp only [Act.put, List.setIfInBounds_toArray, List.set_cons_zero, List.set_cons_succ])
  refine' wpAnyH_take (i := 16) ?hihp16 (by kernel_rfl) (by kernel_rfl) (by kernel_rfl) ?hqhp16 (Or.inl ⟨?hwhp16, ?hyhp16⟩) (by assumption) ?hrhp16
  case hihp16 => (simp only [List.getElem?_toArray, List.getElem?_cons_succ, List.getElem?_cons_zero]; rfl)
  case hqhp16 => exact fun _ _ _ h => h
  case hwhp16 => rfl
  case hyhp16 => exact fun w0 hSw => run_exec_load rfl rfl (ld_int hSw.blk.author)
  (try simp only [Act.put, List.setIfInBounds_toArray, List.set_cons_zero, List.set_cons_succ])
  refine' wpAnyH_take (i := 19) ?hihp19 (by kernel_rfl) (by kernel_rfl) (by kernel_rfl) ?hqhp19 (Or.inl ⟨?hwhp19, ?hyhp19⟩) (by assumption) ?hrhp19
  case hihp19 => (simp only [List.getElem?_toArray, List.getElem?_cons_succ, List.getElem?_cons_zero]; rfl)
  case hqhp19 => exact fun _ _ _ h => h
  case hwhp19 => rfl
  case hyhp19 => (intro w0 hSw; (try dsimp only at hSw); go_simp; try with_reducible rfl)
  (try simp only [Act.put, List.setIfInBounds_toArray, List.set_cons_zero, List.set_cons_succ])
  refine' wpAnyH_take (i := 20) ?hihp20 (by kernel_rfl) (by kernel_rfl) (by kernel_rfl) ?hqhp20 (Or.inl ⟨?hwhp20, ?hyhp20⟩) (by assumption) ?hrhp20
  case hihp20 => (simp only [List.getElem?_toArray, List.getElem?_cons_succ, List.getElem?_cons_zero]; rfl)
  case hqhp20 => exact fun _ _ _ h => h
  case hwhp20 => rfl
  case hyhp20 => exact fun w0 hSw => run_exec_load rfl rfl (ld_int hSw.blk.seq)
  (try simp only [Act.put, List.setIfInBounds_toArray, List.set_cons_zero, List.set_cons_succ])
  refine' wpAnyH_take (i := 23) ?hihp23 (by kernel_rfl) (by kernel_rfl) (by kernel_rfl) ?hqhp23 (Or.inl ⟨?hwhp23, ?hyhp23⟩) (by assumption) ?hrhp23
  case hihp23 => (simp only [List.getElem?_toArray, List.getElem?_cons_succ, List.getElem?_cons_zero]; rfl)
  case hqhp23 => exact fun _ _ _ h => h
  case hwhp23 => rfl
  case hyhp23 => (intro w0 hSw; (try dsimp only at hSw); go_simp; try with_reducible rfl)
  (try simp only [Act.put, List.setIfInBounds_toArray, List.set_cons_zero, List.set_cons_succ])
  refine' wpAnyH_take (i := 24) ?hihp24 (by kernel_rfl) (by kernel_rfl) (by kernel_rfl) ?hqhp24 (Or.inl ⟨?hwhp24, ?hyhp24⟩) (by assumption) ?hrhp24
  case hihp24 => (simp only [List.getElem?_toArray, List.getElem?_cons_succ, List.getElem?_cons_zero]; rfl)
  case hqhp24 => exact fun _ _ _ h => h
  case hwhp24 => rfl
  case hyhp24 => exact fun w0 hSw => run_exec_load rfl rfl (ld_int hSw.blk.size)
  (try simp only [Act.put, List.setIfInBounds_toArray, List.set_cons_zero, List.set_cons_succ])
  refine' wpAnyH_take (i := 27) ?hihp27 (by kernel_rfl) (by kernel_rfl) (by kernel_rfl) ?hqhp27 (Or.inl ⟨?hwhp27, ?hyhp27⟩) (by assumption) ?hrhp27
  case hihp27 => (simp only [List.getElem?_toArray, List.getElem?_cons_succ, List.getElem?_cons_zero]; rfl)
  case hqhp27 => exact fun _ _ _ h => h
  case hwhp27 => rfl
  case hyhp27 => (intro w0 hSw; (try dsimp only at hSw); go_simp; try with_reducible rfl)
  (try simp only [Act.put, List.setIfInBounds_toArray, List.set_cons_zero, List.set_cons_succ])
  refine' wpAnyH_take (i := 28) ?hihp28 (by kernel_rfl) (by kernel_rfl) (by kernel_rfl) ?hqhp28 (Or.inl ⟨?hwhp28, ?hyhp28⟩) (by assumption) ?hrhp28
  case hihp28 => (simp only [List.getElem?_toArray, List.getElem?_cons_succ, List.getElem?_cons_zero]; rfl)
  case hqhp28 => exact fun _ _ _ h => h
  case hwhp28 => rfl
  case hyhp28 => exact fun w0 hSw => run_exec_load rfl rfl ((hSw.blk.commit 0))
  (try simp only [Act.put, List.setIfInBounds_toArray, List.set_cons_zero, List.set_cons_succ])
  refine wpAnyH_ready (rs := [2]) (by kernel_rfl) (by simp) ?_
  refine' AllReadyH.cons ?hihp2 (fun K hK => ?hrhp2) AllReadyH.nil
  case hihp2 => (simp only [List.getElem?_toArray, List.getElem?_cons_succ, List.getElem?_cons_zero]; rfl)
  go_simp
  (refine (HCI.out _ hHeld).mono ?_; rintro e wx ⟨rfl, hbx⟩)
  refine hK.out _ _ ?_ (fun hHeld => ?_)
  ·
   exact hHeld.next HR.out hbx
  clear hK K
  (try simp only [Act.put, List.setIfInBounds_toArray, List.set_cons_zero, List.set_cons_succ])
  refine wpAnyH_ready (rs := [5]) (by kernel_rfl) (by simp) ?_
  refine' AllReadyH.cons ?hihp5 (fun K hK => ?hrhp5) AllReadyH.nil
  case hihp5 => (simp only [List.getElem?_toArray, List.getElem?_cons_succ, List.getElem?_cons_zero]; rfl)
  go_simp
  (refine (HN1.out _).mono ?_; rintro e wx ⟨rfl, hbx⟩)
  refine hK.out _ _ ?_ (fun hHeld => ?_)
  ·
   exact hHeld.next HR.out hbx
  clear hK K
  (try simp only [Act.put, List.setIfInBounds_toArray, List.set_cons_zero, List.set_cons_succ])
  refine' wpAnyH_take (i := 6) ?hihp6 (by kernel_rfl) (by kernel_rfl) (by kernel_rfl) ?hqhp6 (Or.inl ⟨?hwhp6, ?hyhp6⟩) (by assumption) ?hrhp6
  case hihp6 => (simp only [List.getElem?_toArray, List.getElem?_cons_succ, List.getElem?_cons_zero]; rfl)
  case hqhp6 => exact fun _ _ _ h => h
  case hwhp6 => rfl
  case hyhp6 => (intro w0 hSw; (try dsimp only at hSw); go_simp; try with_reducible rfl)
  (try simp only [Act.put, List.setIfInBounds_toArray, List.set_cons_zero, List.set_cons_succ])
  refine wpAnyH_ready (rs := [10]) (by kernel_rfl) (by simp) ?_
  refine' AllReadyH.cons ?hihp10 (fun K hK => ?hrhp10) AllReadyH.nil
  case hihp10 => (simp only [List.getElem?_toArray, List.getElem?_cons_succ, List.getElem?_cons_zero]; rfl)
  go_simp
  (refine (HN2.out _).mono ?_; rintro e wx ⟨rfl, hbx⟩)
  refine hK.out _ _ ?_ (fun hHeld => ?_)
  ·
   exact hHeld.next HR.out hbx
  clear hK K
  (try simp only [Act.put, List.setIfInBounds_toArray, List.set_cons_zero, List.set_cons_succ])
  refine' wpAnyH_take (i := 11) ?hihp11 (by kernel_rfl) (by kernel_rfl) (by kernel_rfl) ?hqhp11 (Or.inl ⟨?hwhp11, ?hyhp11⟩) (by assumption) ?hrhp11
  case hihp11 => (simp only [List.getElem?_toArray, List.getElem?_cons_succ, List.getElem?_cons_zero]; rfl)
  case hqhp11 => exact fun _ _ _ h => h
  case hwhp11 => rfl
  case hyhp11 => (intro w0 hSw; (try dsimp only at hSw); go_simp; try with_reducible rfl)
  (try simp only [Act.put, List.setIfInBounds_toArray, List.set_cons_zero, List.set_cons_succ])
  refine' wpAnyH_take (i := 14) ?hihp14 (by kernel_rfl) (by kernel_rfl) (by kernel_rfl) ?hqhp14 (Or.inl ⟨?hwhp14, ?hyhp14⟩) (by assumption) ?hrhp14
  case hihp14 => (simp only [List.getElem?_toArray, List.getElem?_cons_succ, List.getElem?_cons_zero]; rfl)
  case hqhp14 => exact fun _ _ _ h => h
  case hwhp14 => rfl
  case hyhp14 => (intro w0 hSw; (try dsimp only at hSw); go_simp; try with_reducible rfl)
  (try simp only [Act.put, List.setIfInBounds_toArray, List.set_cons_zero, List.set_cons_succ])
  refine wpAnyH_ready (rs := [17]) (by kernel_rfl) (by simp) ?_
  refine' AllReadyH.cons ?hihp17 (fun K hK => ?hrhp17) AllReadyH.nil
  case hihp17 => (simp only [List.getElem?_toArray, List.getElem?_cons_succ, List.getElem?_cons_zero]; rfl)
  go_simp
  (refine (HN3.out _).mono ?_; rintro e wx ⟨rfl, hbx⟩)
  refine hK.out _ _ ?_ (fun hHeld => ?_)
  ·
   exact hHeld.next HR.out hbx
  clear hK K
  (try simp only [Act.put, List.setIfInBounds_toArray, List.set_cons_zero, List.set_cons_succ])
  refine' wpAnyH_take (i := 18) ?hihp18 (by kernel_rfl) (by kernel_rfl) (by kernel_rfl) ?hqhp18 (Or.inl ⟨?hwhp18, ?hyhp18⟩) (by assumption) ?hrhp18
  case hihp18 => (simp only [List.getElem?_toArray, List.getElem?_cons_succ, List.getElem?_cons_zero]; rfl)
  case hqhp18 => exact fun _ _ _ h => h
  case hwhp18 => rfl
  case hyhp18 => (intro w0 hSw; (try dsimp only at hSw); go_simp; try with_reducible rfl)
  (try simp only [Act.put, List.setIfInBounds_toArray, List.set_cons_zero, List.set_cons_succ])
  refine wpAnyH_ready (rs := [21]) (by kernel_rfl) (by simp) ?_
  refine' AllReadyH.cons ?hihp21 (fun K hK => ?hrhp21) AllReadyH.nil
  case hihp21 => (simp only [List.getElem?_toArray, List.getElem?_cons_succ, List.getElem?_cons_zero]; rfl)
  go_simp
  (refine (HN4.out _).mono ?_; rintro e wx ⟨rfl, hbx⟩)
  refine hK.out _ _ ?_ (fun hHeld => ?_)
  ·
   exact hHeld.next HR.out hbx
  clear hK K
  (try simp only [Act.put, List.setIfInBounds_toArray, List.set_cons_zero, List.set_cons_succ])
  refine' wpAnyH_take (i := 22) ?hihp22 (by kernel_rfl) (by kernel_rfl) (by kernel_rfl) ?hqhp22 (Or.inl ⟨?hwhp22, ?hyhp22⟩) (by assumption) ?hrhp22
  case hihp22 => (simp only [List.getElem?_toArray, List.getElem?_cons_succ, List.getElem?_cons_zero]; rfl)
  case hqhp22 => exact fun _ _ _ h => h
  case hwhp22 => rfl
  case hyhp22 => (intro w0 hSw; (try dsimp only at hSw); go_simp; try with_reducible rfl)
  (try simp only [Act.put, List.setIfInBounds_toArray, List.set_cons_zero, List.set_cons_succ])
  refine wpAnyH_ready (rs := [25]) (by kernel_rfl) (by simp) ?_
  refine' AllReadyH.cons ?hihp25 (fun K hK => ?hrhp25) AllReadyH.nil
  case hihp25 => (simp only [List.getElem?_toArray, List.getElem?_cons_succ, List.getElem?_cons_zero]; rfl)
  go_simp
  (refine (HN5.out _).mono ?_; rintro e wx ⟨rfl, hbx⟩)
  refine hK.out _ _ ?_ (fun hHeld => ?_)
  ·
   exact hHeld.next HR.out hbx
  clear hK K
  (try simp only [Act.put, List.setIfInBounds_toArray, List.set_cons_zero, List.set_cons_succ])
  refine' wpAnyH_take (i := 26) ?hihp26 (by kernel_rfl) (by kernel_rfl) (by kernel_rfl) ?hqhp26 (Or.inl ⟨?hwhp26, ?hyhp26⟩) (by assumption) ?hrhp26
  case hihp26 => (simp only [List.getElem?_toArray, List.getElem?_cons_succ, List.getElem?_cons_zero]; rfl)
  case hqhp26 => exact fun _ _ _ h => h
  case hwhp26 => rfl
  case hyhp26 => (intro w0 hSw; (try dsimp only at hSw); go_simp; try with_reducible rfl)
  (try simp only [Act.put, List.setIfInBounds_toArray, List.set_cons_zero, List.set_cons_succ])
  refine wpAnyH_ready (rs := [29]) (by kernel_rfl) (by simp) ?_
  refine' AllReadyH.cons ?hihp29 (fun K hK => ?hrhp29) AllReadyH.nil
  case hihp29 => (simp only [List.getElem?_toArray, List.getElem?_cons_succ, List.getElem?_cons_zero]; rfl)
  go_simp
  (refine (HN6.out _).mono ?_; rintro e wx ⟨rfl, hbx⟩)
  refine hK.out _ _ ?_ (fun hHeld => ?_)
  ·
   exact hHeld.next HR.out hbx
  clear hK K
  (try simp only [Act.put, List.setIfInBounds_toArray, List.set_cons_zero, List.set_cons_succ])
  refine' wpAnyH_take (i := 30) ?hihp30 (by kernel_rfl) (by kernel_rfl) (by kernel_rfl) ?hqhp30 (Or.inl ⟨?hwhp30, ?hyhp30⟩) (by assumption) ?hrhp30
  case hihp30 => (simp only [List.getElem?_toArray, List.getElem?_cons_succ, List.getElem?_cons_zero]; rfl)
  case hqhp30 => exact fun _ _ _ h => h
  case hwhp30 => rfl
  case hyhp30 => (intro w0 hSw; (try dsimp only at hSw); go_simp; try with_reducible rfl)
  (try simp only [Act.put, List.setIfInBounds_toArray, List.set_cons_zero, List.set_cons_succ])
  refine' wpAnyH_take (i := 31) ?hihp31 (by kernel_rfl) (by kernel_rfl) (by kernel_rfl) ?hqhp31 (Or.inl ⟨?hwhp31, ?hyhp31⟩) (by assumption) ?hrhp31
  case hihp31 => (simp only [List.getElem?_toArray, List.getElem?_cons_succ, List.getElem?_cons_zero]; rfl)
  case hqhp31 => exact fun _ _ _ h => h
  case hwhp31 => rfl
  case hyhp31 => (intro w0 hSw; (try dsimp only at hSw); go_simp; try with_reducible rfl)
  (try simp only [Act.put, List.setIfInBounds_toArray, List.set_cons_zero, List.set_cons_succ])
  refine' wpAnyH_take (i := 32) ?hihp32 (by kernel_rfl) (by kernel_rfl) (by kernel_rfl) ?hqhp32 (Or.inl ⟨?hwhp32, ?hyhp32⟩) (by assumption) ?hrhp32
  case hihp32 => (simp only [List.getElem?_toArray, List.getElem?_cons_succ, List.getElem?_cons_zero]; rfl)
  case hqhp32 => exact fun _ _ _ h => h
  case hwhp32 => rfl
  case hyhp32 => (intro w0 hSw; (try dsimp only at hSw); go_simp; try with_reducible rfl)
  (try simp only [Act.put, List.setIfInBounds_toArray, List.set_cons_zero, List.set_cons_succ])
  refine wpAnyH_done (by kernel_rfl) ?_ _
  go_wp2_with fail
  go_ret2
  exact ⟨by rw [HE.out, ← HALL.out]; rfl, HB.out.trans (hHeld.below.mono HB.out.size)⟩
 ·
  have hne : (c != 0) = true := bne_iff_ne.2 h0
  have HE : Hid (putH h = ([], c)) := Lib.hid (by rw [HP.out, if_pos h0])
  clear h0
  go_enter Tryz.func40, Tryz.ntmps40
  go_upto_region 1 with fail
  refine wp_at HW.out.symm ?_
  rw [← HS.out]
  clear HW
  go_wp2_with (first
   | ((with_reducible refine step_load (t := 26) (x := .tmp 1) (p := ?lpd2) (v := ?lvd2) ?lgd2 ?lod2 ?lxd2 ?lrd2 ?lhd2); (case lgd2 => rfl); (case lod2 => rfl); (case lxd2 => rfl); (case lrd2 => exact HLD.out))
   | (go_at_call 23; with_reducible refine HCK.out.mono ?_; rintro e w2 ⟨rfl, hb2⟩))
  go_ret2
  exact ⟨by rw [HE.out]; rfl, HB.out.trans (hb2.mono HB.out.size)⟩
end Go.Proofs.YtpeneeddfgmjpaaGreatDoor.hdr

namespace Go.Proofs.YtpeneeddfgmjpaaGreatDoor.hdr
open Go.RowKit Go.Proofs.YtpeneeddfgmjpaaGreatDoor.mem Go.Proofs.YtpeneeddfgmjpaaGreatDoor.sha Go.Proofs.YtpeneeddfgmjpaaGreatDoor.ids

/-- what petrelref02.Sum answers -/
def RSum : Prop := ∀ (s : ByteArray) (w : World), s.size ≤ 1000000 → Calls Tryz.prog 41 #[.string s] w fun e w' => e = .returned (.agg (bv (digest s.data.toList)).toArray) ∧ Below w.heap.size w w'
theorem digest_len (l : List UInt8) : (digest l).length = 32 := rfl
end Go.Proofs.YtpeneeddfgmjpaaGreatDoor.hdr

namespace Go.Proofs.YtpeneeddfgmjpaaGreatDoor.hdr
open Go.RowKit Go.Proofs.YtpeneeddfgmjpaaGreatDoor.mem Go.Proofs.YtpeneeddfgmjpaaGreatDoor.sha Go.Proofs.YtpeneeddfgmjpaaGreatDoor.ids
open Go.Proofs.YtpeneeddfgmjpaaGreatDoor.opn (b1 b2 b4 num txt idl byte rd rdN rdT rdI rdS rdL St Reads Stays endE zid mkId)

def idH (h : Hd) : List UInt8 × Int := if checkH h ≠ 0 then (zid, checkH h) else (digest (enH h), 0)
set_option maxHeartbeats 4000000 in
set_option maxRecDepth 100000 in
theorem ident_any (hRS : RSum) (h : Hd) (v : Value) (w : World) (hr : h.commit.length = 32) (hv : RdV w v h.parents) (hm : h.parents.length ≤ 1000) (ht : h.topic.length ≤ 140737488351232) :
  Calls Tryz.prog 29 #[hdv h v] w fun e w' => e = .returned (.tuple #[idv (idH h).1, .int .i64 (idH h).2]) ∧ Below w.heap.size w w' := by
 obtain ⟨w1, hw1⟩ : ∃ u, u = (w.alloc (.cells (hdc h v).toArray 26)).alloc (.cells (bv zid).toArray 24) := ⟨_, rfl⟩
 obtain ⟨S, hS⟩ : ∃ S, S = w.heap.size := ⟨_, rfl⟩
 have hX : Blk w1 S 26 (hdc h v).toArray := by rw [hw1, hS]; exact (Blk.new w _ _).alloc _
 have hB : Below w.heap.size w w1 := by rw [hw1]; exact ((Below.refl _ _).alloc (Nat.le_refl _) _).alloc (by simp) _
 have hv1 := hv.next hB
 have HX := Lib.hid hX
 have HB := Lib.hid hB
 have HS := Lib.hid hS
 have HW := Lib.hid hw1
 have HR := Lib.hid hr
 have HV := Lib.hid hv1
 have HL := Lib.hid hm
 have hY : Blk w1 (S + 1) 24 (bv zid).toArray := by rw [hw1, hS]; exact Blk.at_ (by simp) _ _
 have HY := Lib.hid hY
 have HLD := Lib.hid (run_load_hd hX hr)
 have hput := put_any h v w1 hr hv1 hm ht
 have HRS := Lib.hid hRS
 have hid : idH h = if checkH h ≠ 0 then (zid, checkH h) else (digest (enH h), 0) := rfl
 by_cases h0 : checkH h = 0
 ·
  rw [put_ok h0] at hput
  have hen := en_len h0 hr hv1.ok
  obtain ⟨s, hs⟩ : ∃ s, s = oct.tx (enH h) := ⟨_, rfl⟩
  simp only at hput
  rw [← hs] at hput
  have HPUT := Lib.hid hput
  have hsum := fun u => hRS s u (by rw [hs, oct.tx_size]; omega)
  rw [hs, oct.tx_list, ← hs] at hsum
  have HSUM := Lib.hid hsum
  have HE : Hid (idH h = (digest (enH h), 0)) := Lib.hid (by rw [hid, if_neg (fun hh => hh h0)])
  obtain ⟨y, hy⟩ : ∃ y, y = digest (enH h) := ⟨_, rfl⟩
  have HYL : Hid (y.length = 32) := Lib.hid (by rw [hy]; exact digest_len _)
  rw [← hy] at HSUM HE
  clear hX hB hv1 hS hw1 hr hv hm ht hY hput hRS hid h0 hen hs hsum hy
  unfold hdv
  go_enter Tryz.func29, Tryz.ntmps29
  go_upto_region 1 with fail
  refine wp_at HW.out.symm ?_
  rw [← HS.out]
  clear HW
  go_wp2_with (first
   | ((with_reducible refine step_load (t := 26) (x := .tmp 1) (p := ?lpd1) (v := ?lvd1) ?lgd1 ?lod1 ?lxd1 ?lrd1 ?lhd1); (case lgd1 => rfl); (case lod1 => rfl); (case lxd1 => rfl); (case lrd1 => exact HLD.out))
   | (go_at_call 40; (with_reducible refine HPUT.out.mono ?_); rintro e w2 ⟨rfl, hb2⟩; have hY2 := HY.out.below hb2 HY.out.lt; have HY2 := Lib.hid hY2; have HB2 := Lib.hid hb2; clear hY2 hb2)
   | (go_at_call 41; (with_reducible refine (HSUM.out _).mono ?_); rintro e w3 ⟨rfl, hb3⟩; have hY3 := HY2.out.below hb3 HY2.out.lt; have hrun := run_store_idw hY3 zid32 HYL.out; have hst := setRow_heap w3 (S + 1) _ (bv y).toArray _ _ hY3)
   | ((with_reducible refine step_store_run (t := 24) (x := .tmp 2) (y := .tmp 16) (p := ?sps1) (v := ?svs1) (w' := ?sws1) ?sgs1 ?sos1 ?sxs1 ?sys1 ?srs1 ?shs1); (case sgs1 => rfl); (case sos1 => rfl); (case sxs1 => rfl); (case sys1 => rfl); (case srs1 => exact hrun)))
  refine bodyPost_ret (results_id rfl _ _ (S + 1) _ y rfl hst HYL.out) rfl ⟨by rw [HE.out]; rfl, ?_⟩
  exact below_row' (HB.out.trans ((HB2.out.trans (hb3.mono HB2.out.size)).mono HB.out.size)) (by rw [HS.out]; exact Nat.le_succ _) _
 ·
  rw [put_no h0] at hput
  simp only at hput
  have HE : Hid (idH h = (zid, checkH h)) := Lib.hid (by rw [hid, if_pos h0])
  obtain ⟨c, hc⟩ : ∃ c, c = checkH h := ⟨_, rfl⟩
  rw [← hc] at hput HE h0
  have HPUT := Lib.hid hput
  have hne : (c != 0) = true := bne_iff_ne.2 h0
  clear hX hB hv1 hS hw1 hr hv hm ht hY hput hRS hid h0 hc
  unfold hdv
  go_enter Tryz.func29, Tryz.ntmps29
  go_upto_region 1 with fail
  refine wp_at HW.out.symm ?_
  rw [← HS.out]
  clear HW
  go_wp2_with (first
   | ((with_reducible refine step_load (t := 26) (x := .tmp 1) (p := ?lpd2) (v := ?lvd2) ?lgd2 ?lod2 ?lxd2 ?lrd2 ?lhd2); (case lgd2 => rfl); (case lod2 => rfl); (case lxd2 => rfl); (case lrd2 => exact HLD.out))
   | (go_at_call 40; (with_reducible refine HPUT.out.mono ?_); rintro e w2 ⟨rfl, hb2⟩; have hY2 := HY.out.below hb2 HY.out.lt; have hrun := run_store_idw hY2 zid32 zid32; have hst := setRow_heap w2 (S + 1) _ (bv zid).toArray _ _ hY2)
   | ((with_reducible refine step_build (t := 24) (parts := #[]) (ps := #[]) (v := ?bvz1) ?bgz1 ?boz1 ?bxz1 ?brz1 ?bhz1); (case bgz1 => rfl); (case boz1 => rfl); (case bxz1 => simp); (case brz1 => exact run_build_zi _))
   | ((with_reducible refine step_store_run (t := 24) (x := .tmp 2) (y := .tmp 13) (p := ?sps2) (v := ?svs2) (w' := ?sws2) ?sgs2 ?sos2 ?sxs2 ?sys2 ?srs2 ?shs2); (case sgs2 => rfl); (case sos2 => rfl); (case sxs2 => rfl); (case sys2 => rfl); (case srs2 => exact hrun)))
  refine bodyPost_ret (results_id rfl _ _ (S + 1) _ zid rfl hst zid32) rfl ⟨by rw [HE.out]; rfl, ?_⟩
  exact below_row' (HB.out.trans (hb2.mono HB.out.size)) (by rw [HS.out]; exact Nat.le_succ _) _

theorem idH_len (h : Hd) : (idH h).1.length = 32 := by
 unfold idH
 split
 ·
  exact zid32
 ·
  rfl
end Go.Proofs.YtpeneeddfgmjpaaGreatDoor.hdr
