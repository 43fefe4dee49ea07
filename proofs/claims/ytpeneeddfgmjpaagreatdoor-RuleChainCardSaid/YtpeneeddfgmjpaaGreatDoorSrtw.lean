/-
  The library's pattern-defeating sort over a row of ids: it sorts.
  Comparing of ids, beside the sort.
  The library's sort.Slice at a slice type that has a name: its entries' laws; its own body.
-/
import Derived.Test.YtpeneeddfgmjpaaGreatDoorSrtc
import Derived.Test.YtpeneeddfgmjpaaGreatDoorSrts
import Derived.Deep.LoopGhost
import Derived.Deep.CutRange
import Derived.Deep.CutBlock
import Derived.Sort.Walk13
import Derived.Sort.AssemblyPlain
import Derived.Test.YtpeneeddfgmjpaaGreatDoorCmpb
import Derived.Shelf.GgSortFunc.Slice
import Derived.Shelf.GgSortFunc.Tiny
namespace Go.Proofs.YtpeneeddfgmjpaaGreatDoor.srt
open Go.Proofs Go.RowKit Go.Proofs.YtpeneeddfgmjpaaGreatDoor.mem Go.Proofs.YtpeneeddfgmjpaaGreatDoor.sha Go.Proofs.YtpeneeddfgmjpaaGreatDoor.ids Go.Sort
/-- what the whole sort asks of the part that is left -/
def Goal (a b : Nat) (d : Array I32) (a' b' : Nat) (dk : Array I32) : Prop := ∀ R, PermIn a' b' dk R → SortedIn lt a' b' R → PermIn a b d R ∧ SortedIn lt a b R
theorem Goal.perm {a b a' b' : Nat} {d dk d1 : Array I32} (h : Goal a b d a' b' dk) (hp : PermIn a' b' dk d1) : Goal a b d a' b' d1 := fun R hR hs => h R (permIn_trans _ _ _ a' b' hp hR) hs
theorem below_perm {a b n : Nat} {d d1 : Array I32} (hd : d.size = n) (hb : b ≤ n) (h : Go.Sort.Below lt a b d) (hp : PermIn a b d d1) : Go.Sort.Below lt a b d1 := h.perm (by omega) hp
set_option maxHeartbeats 4000000 in
set_option maxRecDepth 100000 in
theorem pdq_any {V H : Value} {blk off n : Nat} (E : Env V H blk off n) (hn : n ≤ 1000000000) : ∀ (N a b limit : Nat) (d : Array I32) (w : World), b - a < N → St blk off n d w → a ≤ b → b ≤ n → limit ≤ 1000000000 → Go.Sort.Below lt a b d →
  Calls Tryz.prog 97 #[dat V H, .int .i64 a, .int .i64 b, .int .i64 limit] w fun e w' => e = .returned (.tuple #[]) ∧ ∃ d', PermIn a b d d' ∧ SortedIn lt a b d' ∧ St blk off n d' w' ∧ Tr blk w w' := by
 have HE := Lib.hid E
 clear E
 intro N
 induction N with
 | zero => intro a b limit d w h; exact absurd h (Nat.not_lt_zero _)
 | succ N ih =>
  intro a b limit d w hN hs hab hb hlimit hBel0
  have IH := Lib.hid ih
  have en := enters_less
  have HT0 := Lib.hid (Tr.boxed V H blk w)
  have HS0 := Lib.hid (hs.boxed (V := V) (H := H))
  have HB0 := Lib.hid (Bx.new (V := V) (H := H) hs)
  have HL0 := Lib.hid hBel0
  unfold datObj at HT0 HS0 HB0
  unfold dat
  clear ih hs hBel0
  go_enter Tryz.func97, Tryz.ntmps97
  go_wp2_with fail
  generalize w.alloc _ = w1 at HT0 HS0 HB0 ⊢
  generalize w.heap.size = B at HB0 ⊢
  go_loopg [1, 2, 3, 8, 9] (b - a) (fun kx s1 s2 s3 s8 s9 wr => ∃ (a' b' lim : Nat) (wb wp : Bool) (dk : Array I32), s1 = .int .i64 a' ∧ s2 = .int .i64 b' ∧ s3 = .int .i64 lim ∧ s8 = .bool wb ∧ s9 = .bool wp ∧
   a' ≤ b' ∧ b' ≤ n ∧ b' - a' ≤ kx ∧ kx ≤ b - a ∧ lim ≤ 1000000000 ∧ Hid (Go.Sort.Below lt a' b' dk) ∧ Hid (St blk off n dk wr) ∧ Hid (Tr blk w1 wr) ∧ Hid (Goal a b d a' b' dk))
  case atStart => exact ⟨a, b, limit, true, true, d, rfl, rfl, rfl, rfl, rfl, hab, hb, Nat.le_refl _, Nat.le_refl _, hlimit, HL0, HS0, Lib.hid (Tr.refl _ _), Lib.hid fun R h1 h2 => ⟨h1, h2⟩⟩
  case round =>
   obtain ⟨a', b', lim, wb, wp, dk, rfl, rfl, rfl, rfl, rfl, hab', hb', hkx, hkN, hlim, HL, HS, HT, HG⟩ := hrel
   clear HS0 HL0
   have HB := Lib.hid (HB0.out.turn HT.out)
   have x0 := HB.out.less
   have x1 := HB.out.swap
   by_cases h12 : b' - a' ≤ 12
   ·
    have h12z : (b' : Int) - (a' : Int) ≤ 12 := by omega
    have hE1 := HE.out
    have C := ins_any hE1 dk wr a' b' HS.out hab' hb' hn
    unfold dat at C
    have HC := Lib.hid C
    clear C hE1
    go_wp2_with (go_at_call 123; (with_reducible refine HC.out.mono ?_); rintro e w2 ⟨rfl, hS, hT⟩; have HS2 := Lib.hid hS; have HT2 := Lib.hid hT; clear hS hT HC x0 x1)
    (try simp only [Exit.inBlock, Exit.then]); refine bodyPost_ret (results_none rfl _ _ _) rfl ?_
    have hsz := HS.out.size
    have P := insertionSort_holds swo dk a' b' hab' (by omega)
    have G := HG.out _ P.1 P.2
    exact ⟨rfl, _, G.1, G.2, HS2.out, HT0.out.trans (HT.out.trans HT2.out)⟩
   ·
    have h12z : ¬ ((b' : Int) - (a' : Int) ≤ 12) := by omega
    by_cases hl0 : lim = 0
    ·
     subst hl0
     have hE1 := HE.out
     have C := heap_any hE1 dk wr a' b' HS.out hab' hb' hn
     unfold dat at C
     have HC := Lib.hid C
     clear C hE1
     go_wp2_with (go_at_call 124; (with_reducible refine HC.out.mono ?_); rintro e w2 ⟨rfl, hS, hT⟩; have HS2 := Lib.hid hS; have HT2 := Lib.hid hT; clear hS hT HC x0 x1)
     (try simp only [Exit.inBlock, Exit.then]); refine bodyPost_ret (results_none rfl _ _ _) rfl ?_
     have hsz := HS.out.size
     have P := heapSort_holds swo dk a' b' hab' (by omega)
     have G := HG.out _ P.1 P.2
     exact ⟨rfl, _, G.1, G.2, HS2.out, HT0.out.trans (HT.out.trans HT2.out)⟩
    ·
     have hl0z : ((lim : Int) == 0) = false := beq_eq_false_iff_ne.2 (by omega)
     go_upto_if 35 with fail
     clear hl0z
     go_cut [3] from 19 (fun s3 wc => ∃ (lim2 : Nat) (d1 : Array I32), s3 = .int .i64 lim2 ∧ lim2 ≤ 1000000000 ∧ Hid (PermIn a' b' dk d1) ∧ Hid (St blk off n d1 wc) ∧ Hid (Tr blk w1 wc))
     case first =>
      cases wb
      ·
       have hE1 := HE.out
       have C := brk_any hE1 dk wr a' b' HS.out (by omega) hb' hn
       unfold dat at C
       have HC := Lib.hid C
       clear C hE1
       go_wp2_with (go_at_call 125; (with_reducible refine HC.out.mono ?_); rintro e w2 ⟨rfl, d1, hP, hS, hT⟩; have HP2 := Lib.hid hP; have HS2 := Lib.hid hS; have HT2 := Lib.hid (HT.out.trans hT); clear hP hS hT HC x0 x1)
       go_meet
       case rel => exact ⟨lim - 1, d1, by congr 1; omega, by omega, HP2, HS2, HT2⟩
      ·
       go_wp2_with fail
       go_meet
       case rel => exact ⟨lim, dk, rfl, hlim, Lib.hid (permIn_refl _ _ _), HS, HT⟩
     case rest =>
      obtain ⟨lim2, d1, rfl, hlim2, HP1, HS1, HT1⟩ := hcut
      have hsz0 := HS.out.size
      have HL1 := Lib.hid (below_perm hsz0 hb' HL.out HP1.out)
      have HG1 := Lib.hid (HG.out.perm HP1.out)
      clear x0 x1 HB HS HT HL HG HP1
      have HB := Lib.hid (HB0.out.turn HT1.out)
      have x0 := HB.out.less
      have x1 := HB.out.swap
      have hE1 := HE.out
      have C := pivot_any hE1 d1 wc a' b' HS1.out (by omega) hb' hn
      unfold dat at C
      have HC := Lib.hid C
      clear C hE1
      go_upto_if 50 with (go_at_call 126; (with_reducible refine HC.out.mono ?_); rintro e w2 ⟨m, h, rfl, Hm, Hh, Hb⟩; have HS2 := Lib.hid (HS1.out.below Hb.out); have HT2 := Lib.hid (HT1.out.trans (Tr.below Hb.out)); clear HC x0 x1 HB HS1)
      have HB := Lib.hid (HB0.out.turn HT2.out)
      have x0 := HB.out.less
      have x1 := HB.out.swap
      obtain ⟨hm1, hm2⟩ := Hm.out
      clear HT1 Hb Hm
      go_cut [11, 12] from 19 (fun s11 s12 wc => ∃ (m2 : Nat) (h2 : Int) (d2 : Array I32), s11 = .int .i64 m2 ∧ s12 = .int .i64 h2 ∧ a' ≤ m2 ∧ m2 < b' ∧ Hid (h2 = 0 ∨ h2 = 1) ∧ Hid (PermIn a' b' d1 d2) ∧ Hid (St blk off n d2 wc) ∧ Hid (Tr blk w1 wc))
      case first =>
       by_cases h2 : h = 2
       ·
        subst h2
        have hE1 := HE.out
        have C := rev_any hE1 d1 w2 a' b' HS2.out (by omega) hb' hn
        unfold dat at C
        have HC := Lib.hid C
        clear C hE1
        go_wp2_with (go_at_call 127; (with_reducible refine HC.out.mono ?_); rintro e w3 ⟨rfl, d2, hP, hS, hT⟩; have HP3 := Lib.hid hP; have HS3 := Lib.hid hS; have HT3 := Lib.hid (HT2.out.trans hT); clear hP hS hT HC x0 x1)
        go_meet
        case rel => exact ⟨(b' - 1) - (m - a'), 1, d2, by congr 1; omega, rfl, by omega, by omega, Lib.hid (.inr rfl), HP3, HS3, HT3⟩
       ·
        have h2b : (h == 2) = false := beq_eq_false_iff_ne.2 h2
        go_wp2_with fail
        go_meet
        case rel => exact ⟨m, h, d1, rfl, rfl, hm1, hm2, Lib.hid (by rcases Hh.out with e | e | e; exact .inl e; exact .inr e; exact absurd e h2), Lib.hid (permIn_refl _ _ _), HS2, HT2⟩
      case rest =>
       clear hm1 hm2 Hh
       clear m h
       obtain ⟨m, h, d2, rfl, rfl, hm1, hm2, Hh, HP2, HS3, HT3⟩ := hcut
       have hsz1 := HS2.out.size
       have HL2 := Lib.hid (below_perm hsz1 hb' HL1.out HP2.out)
       have HG2 := Lib.hid (HG1.out.perm HP2.out)
       clear x0 x1 HB HS2 HT2 HL1 HG1 HP2
       have HB := Lib.hid (HB0.out.turn HT3.out)
       go_upto_region 16 with fail
       go_cut [12, 68] from 19 (fun _ s68 wx => ∃ c : Bool, s68 = .bool c ∧ wx = wc)
       case first =>
        rcases Hh.out with rfl | rfl <;> cases wb <;> cases wp <;>
         (go_wp2_with fail
          go_meet
          exact ⟨_, rfl, rfl⟩)
       case rest =>
        obtain ⟨c, rfl, rfl⟩ := hcut
        have x0 := HB.out.less
        have x1 := HB.out.swap
        go_upto_if 68 with fail
        go_cut [] from 19 (fun wx => ∃ d3 : Array I32, Hid (PermIn a' b' d2 d3) ∧ Hid (St blk off n d3 wx) ∧ Hid (Tr blk w1 wx))
        case first =>
         cases c
         ·
          go_wp2_with fail
          go_meet
          case rel => exact ⟨d2, Lib.hid (permIn_refl _ _ _), HS3, HT3⟩
         ·
          have hE1 := HE.out
          have C := pins_any hE1 d2 wc a' b' HS3.out (by omega) hb' hn
          unfold dat at C
          have hsz := HS3.out.size
          have PP := partialInsertionSort_holds swo d2 a' b' (by omega) (by omega) HL2.out
          have HPP := Lib.hid PP
          cases hp : (partialInsertionSort lt d2 a' b').2 with
          | false =>
           rw [hp] at C
           have HC := Lib.hid C
           clear C hE1 PP hp
           go_wp2_with (go_at_call 128; (with_reducible refine HC.out.mono ?_); rintro e w4 ⟨rfl, hS, hT⟩; have HS4 := Lib.hid hS; have HT4 := Lib.hid (HT3.out.trans hT); clear hS hT HC x0 x1)
           go_meet
           case rel => exact ⟨_, Lib.hid HPP.out.1, HS4, HT4⟩
          | true =>
           have HPS := Lib.hid (PP.2 hp)
           rw [hp] at C
           have HC := Lib.hid C
           clear C hE1 PP hp
           go_wp2_with (go_at_call 128; (with_reducible refine HC.out.mono ?_); rintro e w4 ⟨rfl, hS, hT⟩; have HS4 := Lib.hid hS; have HT4 := Lib.hid (HT3.out.trans hT); clear hS hT HC x0 x1)
           (try simp only [Exit.inBlock, Exit.then]); refine bodyPost_ret (results_none rfl _ _ _) rfl ?_
           have G := HG2.out _ HPP.out.1 HPS.out
           exact ⟨rfl, _, G.1, G.2, HS4.out, HT0.out.trans HT4.out⟩
        case rest =>
         obtain ⟨d3, HP3, HS4, HT4⟩ := hcut
         have hsz2 := HS3.out.size
         have HL3 := Lib.hid (below_perm hsz2 hb' HL2.out HP3.out)
         have HG3 := Lib.hid (HG2.out.perm HP3.out)
         clear x0 x1 HB HS3 HT3 HL2 HG2 HP3
         have HB := Lib.hid (HB0.out.turn HT4.out)
         have x0 := HB.out.less
         have x1 := HB.out.swap
         go_upto_region 18 with fail
         go_cut [83] from 19 (fun s83 wx => ∃ c : Bool, s83 = .bool c ∧ Hid (c = true → 0 < a' ∧ lt d3[a' - 1]! d3[m]! = false) ∧ Hid (St blk off n d3 wx) ∧ Hid (Tr blk w1 wx))
         case first =>
          rcases Nat.eq_zero_or_pos a' with ha0 | ha0
          ·
           have ha0z : decide ((0 : Int) < (a' : Int)) = false := decide_eq_false (by omega)
           go_wp2_with fail
           go_meet
           case rel => exact ⟨false, rfl, Lib.hid (fun h => by cases h), HS4, HT4⟩
          ·
           have ha0z : decide ((0 : Int) < (a' : Int)) = true := decide_eq_true (by omega)
           cases hlv : lt d3[a' - 1]! d3[m]! with
           | false =>
            have HL := Lib.hid (HE.out.lessC HS4.out (d := d3) (i := a' - 1) (j := m) (x := (a' : Int) - 1) (y := (m : Int)) (by omega) (by omega) (by omega) (by omega) hlv)
            have HV := Lib.hid hlv
            clear hlv
            go_wp2_with (go_at_fn 70; (with_reducible refine HL.out.mono ?_); rintro e w5 ⟨rfl, hSn, hTn⟩; have HS5 := Lib.hid hSn; have HT5 := Lib.hid (HT4.out.trans hTn); clear hSn hTn x0 x1 HL)
            go_meet
            case rel => exact ⟨true, rfl, Lib.hid (fun _ => ⟨ha0, HV.out⟩), HS5, HT5⟩
           | true =>
            have HL := Lib.hid (HE.out.lessC HS4.out (d := d3) (i := a' - 1) (j := m) (x := (a' : Int) - 1) (y := (m : Int)) (by omega) (by omega) (by omega) (by omega) hlv)
            clear hlv
            go_wp2_with (go_at_fn 70; (with_reducible refine HL.out.mono ?_); rintro e w5 ⟨rfl, hSn, hTn⟩; have HS5 := Lib.hid hSn; have HT5 := Lib.hid (HT4.out.trans hTn); clear hSn hTn x0 x1 HL)
            go_meet
            case rel => exact ⟨false, rfl, Lib.hid (fun h => by cases h), HS5, HT5⟩
         case rest =>
          clear x0 x1 HB HS4 HT4
          obtain ⟨c, rfl, HC3, HS5, HT5⟩ := hcut
          have HB := Lib.hid (HB0.out.turn HT5.out)
          have x0 := HB.out.less
          have x1 := HB.out.swap
          have hsz := HS5.out.size
          cases c with
          | false =>
           clear HC3
           obtain ⟨mid, ap, d4, hx⟩ : ∃ mid ap d4, partition lt d3 a' b' m = (mid, ap, d4) := ⟨(partition lt d3 a' b' m).1, (partition lt d3 a' b' m).2.1, (partition lt d3 a' b' m).2.2, rfl⟩
           obtain ⟨r1, r2, r3, r4, r5, r6, r7⟩ := round_part swo (partition_holds lt) hm1 hm2 (show b' ≤ d3.size by omega) HL3.out hx
           have hE1 := HE.out
           have C := part_any hE1 d3 wc a' b' m HS5.out hm1 hm2 hb' hn
           unfold dat at C
           rw [hx] at C
           have HC := Lib.hid C
           have R4 := Lib.hid r4
           have R5 := Lib.hid r5
           have R6 := Lib.hid r6
           have R7 := Lib.hid r7
           clear C hE1 hx r4 r5 r6 r7
           go_upto_if 109 with (go_at_call 130; (with_reducible refine HC.out.mono ?_); rintro e w6 ⟨rfl, hS, hT⟩; have HS6 := Lib.hid hS; have HT6 := Lib.hid (HT5.out.trans hT); clear hS hT HC x0 x1)
           have HB6 := Lib.hid (HB0.out.turn HT6.out)
           have y0 := HB6.out.less
           have y1 := HB6.out.swap
           by_cases h4 : mid - a' < b' - mid
           ·
            have h4z : (mid : Int) - (a' : Int) < (b' : Int) - (mid : Int) := by omega
            have C := IH.out a' mid lim2 d4 w6 (by omega) HS6.out r1 (by omega) hlim2 R4.out
            unfold dat at C
            have HC := Lib.hid C
            clear C
            go_wp2_with (go_at_call 97; (with_reducible refine HC.out.mono ?_); rintro e w7 ⟨rfl, d5, hP, hQ, hS, hT⟩; have HP7 := Lib.hid hP; have HQ7 := Lib.hid hQ; have HS7 := Lib.hid hS; have HT7 := Lib.hid (HT6.out.trans hT); clear hP hQ hS hT HC y0 y1)
            go_roundg (b' - (mid + 1))
            case measure => omega
            case rel =>
             exact ⟨mid + 1, b', lim2, _, ap, d5, by go_num, rfl, rfl, rfl, rfl, by omega, hb', Nat.le_refl _, by omega, hlim2, Lib.hid (R6.out d5 HP7.out HQ7.out).1, HS7, HT7, Lib.hid fun R hR hs => have G := (R6.out d5 HP7.out HQ7.out).2 R hR hs; HG3.out R G.1 G.2⟩
           ·
            have h4z : ¬ ((mid : Int) - (a' : Int) < (b' : Int) - (mid : Int)) := by omega
            have C := IH.out (mid + 1) b' lim2 d4 w6 (by omega) HS6.out (by omega) hb' hlim2 R5.out
            unfold dat at C
            rw [show ((mid + 1 : Nat) : Int) = (mid : Int) + 1 by omega] at C
            have HC := Lib.hid C
            clear C
            go_wp2_with (go_at_call 97; (with_reducible refine HC.out.mono ?_); rintro e w7 ⟨rfl, d5, hP, hQ, hS, hT⟩; have HP7 := Lib.hid hP; have HQ7 := Lib.hid hQ; have HS7 := Lib.hid hS; have HT7 := Lib.hid (HT6.out.trans hT); clear hP hQ hS hT HC y0 y1)
            go_roundg (mid - a')
            case measure => omega
            case rel =>
             exact ⟨a', mid, lim2, _, ap, d5, rfl, rfl, rfl, rfl, rfl, r1, by omega, Nat.le_refl _, by omega, hlim2, Lib.hid (R7.out d5 HP7.out HQ7.out).1, HS7, HT7, Lib.hid fun R hR hs => have G := (R7.out d5 HP7.out HQ7.out).2 R hR hs; HG3.out R G.1 G.2⟩
          | true =>
           obtain ⟨ha0, hle⟩ := HC3.out rfl
           obtain ⟨mid, d4, hx⟩ : ∃ mid d4, partitionEqual lt d3 a' b' m = (mid, d4) := ⟨(partitionEqual lt d3 a' b' m).1, (partitionEqual lt d3 a' b' m).2, rfl⟩
           obtain ⟨r1, r2, r3, r4, r5⟩ := round_eq swo (partitionEqual_holds lt) ha0 hm1 hm2 (show b' ≤ d3.size by omega) HL3.out hle hx
           have hE1 := HE.out
           have C := parteq_any hE1 d3 wc a' b' m HS5.out hm1 hm2 hb' hn
           unfold dat at C
           rw [hx] at C
           have HC := Lib.hid C
           have R4 := Lib.hid r4
           have R5 := Lib.hid r5
           clear C hE1 hx r4 r5 hle HC3
           go_wp2_with (go_at_call 129; (with_reducible refine HC.out.mono ?_); rintro e w6 ⟨rfl, hS, hT⟩; have HS6 := Lib.hid hS; have HT6 := Lib.hid (HT5.out.trans hT); clear hS hT HC x0 x1)
           go_roundg (b' - mid)
           case measure => omega
           case rel => exact ⟨mid, b', lim2, wb, wp, d4, rfl, rfl, rfl, rfl, rfl, r2, hb', Nat.le_refl _, by omega, hlim2, R4, HS6, HT6, Lib.hid fun R hR hs => have G := R5.out R hR hs; HG3.out R G.1 G.2⟩
end Go.Proofs.YtpeneeddfgmjpaaGreatDoor.srt



namespace Go.Proofs.YtpeneeddfgmjpaaGreatDoor.srt
open Go.Extern Go.Extern.Rtype Go.Lib Go.Proofs Go.Shelf
section
variable {P : Program}
theorem nm_under (t u e : TypeId) (nm : String) (i iu : TypeInfo) (hi : P.info? t = some i) (hd : i.desc = .named nm u) (hu : P.info? u = some iu) (_hdu : iu.desc = .slice e) (w : World) : (under t).run P w = .ok (u, iu) w := by
 simp [under, rl_info t i hi, hd, rl_info u iu hu, Result.andThen]
theorem nm_kind (t u e : TypeId) (nm : String) (i iu : TypeInfo) (hi : P.info? t = some i) (hd : i.desc = .named nm u) (hu : P.info? u = some iu) (hdu : iu.desc = .slice e) (w : World) : (kind t).run P w = .ok 23 w := by
 simp [kind, nm_under t u e nm i iu hi hd hu hdu, hdu, Result.andThen]
theorem nm_valueOf (t u e : TypeId) (nm : String) (i iu : TypeInfo) (hi : P.info? t = some i) (hd : i.desc = .named nm u) (hu : P.info? u = some iu) (hdu : iu.desc = .slice e) (p : Option Addr) (n c : Nat) (w : World) :
  (ReflectliteValue.unpack (.iface t (.slice p n c))).run P w = .ok (.agg #[typeHandle P t, .pointer (some ⟨w.heap.size, 0, none⟩), .int .u64 151]) (w.alloc (.cells #[.slice p n c] t)) := by
 simp [ReflectliteValue.unpack, ReflectliteValue.mk, newVar, newRow, handle, nm_kind t u e nm i iu hi hd hu hdu, Result.andThen, Value.cells, ReflectliteValue.flagIndir]
theorem nm_underlying (t u e : TypeId) (nm : String) (i iu : TypeInfo) (hi : P.info? t = some i) (hd : i.desc = .named nm u) (hu : P.info? u = some iu) (hdu : iu.desc = .slice e) : P.underlying t = some (.slice e) := by
 obtain ⟨d, _, _, _, _, _, _, _, _, _⟩ := i
 obtain ⟨d', _, _, _, _, _, _, _, _, _⟩ := iu
 simp only at hd hdu
 subst hd
 subst hdu
 simp [Program.underlying, hi, hu]
theorem nm_len (t u e : TypeId) (nm : String) (i iu : TypeInfo) (hi : P.info? t = some i) (hd : i.desc = .named nm u) (hu : P.info? u = some iu) (hdu : iu.desc = .slice e) (hpk : P.packed t = false) (a : Addr) (p : Option Addr) (n c : Nat) (w : World) (ha : w.cell? a = some (.slice p n c)) :
  (ReflectliteValue.method (ReflectliteValue.valueError "reflectlite.Value.Len" 0) ReflectliteValue.len #[.agg #[typeHandle P t, .pointer (some a), .int .u64 151]]).run P w = .ok (.int .i64 n) w := by
 have hu' := nm_underlying t u e nm i iu hi hd hu hdu
 rw [rl_method]
 simp only [Sem.run_bind, run_parts t a hpk w, Result.andThen]
 simp [ReflectliteValue.len, nm_under t u e nm i iu hi hd hu hdu, hdu, loadVar, isAgg, underlying, hu', ha, Builtin.len_, goInt, Result.andThen]
theorem nm_elem (t u e : TypeId) (nm : String) (i iu : TypeInfo) (hi : P.info? t = some i) (hd : i.desc = .named nm u) (hu : P.info? u = some iu) (hdu : iu.desc = .slice e) (w : World) : (elem? t).run P w = .ok (some e) w := by
 simp [elem?, nm_under t u e nm i iu hi hd hu hdu, hdu, Result.andThen]
theorem nm_swapper (t u e : TypeId) (nm : String) (i iu ie : TypeInfo) (hi : P.info? t = some i) (hd : i.desc = .named nm u) (hu : P.info? u = some iu) (hdu : iu.desc = .slice e) (hie : P.info? e = some ie) (ke : Nat) (hke : ∀ w, (kind e).run P w = .ok ke w)
  (p : Option Addr) (n c : Nat) (f : Nat) (hf : P.funcs.findIdx? (·.name == "internal/reflectlite" ++ ".Swapper$" ++ toString (swapperK n ie ke)) = some f) (w : World) :
  (ReflectliteSwapper.swapper "internal/reflectlite" (ReflectliteValue.valueError "Swapper") #[.iface t (.slice p n c)]).run P w
   = .ok (.func (.func f) #[] (if swapperK n ie ke ≤ 2 then #[] else #[.slice p n c, typeHandle P e])) w := by
 rw [rl_swapper]
 simp only [Sem.run_bind, nm_elem t u e nm i iu hi hd hu hdu, Result.andThen, rl_info e ie hie, hke, handle, Sem.run_pure]
 change Sem.run P (ReflectliteSwapper.literal "internal/reflectlite" (swapperK n ie ke) (if swapperK n ie ke ≤ 2 then #[] else #[.slice p n c, typeHandle P e])) w = _
 simp at hf
 simp [ReflectliteSwapper.literal, hf, Result.andThen]
end

noncomputable def tiL : TypeInfo := (Tryz.prog.info? 100).get (by kernel_rfl)
noncomputable def tiS : TypeInfo := (Tryz.prog.info? 22).get (by kernel_rfl)
noncomputable def tiE : TypeInfo := (Tryz.prog.info? 24).get (by kernel_rfl)
theorem descL : tiL.desc = .named "petrel/ident.list" 22 := by kernel_rfl
theorem descS : tiS.desc = .slice 24 := by kernel_rfl
theorem infoL : Tryz.prog.info? 100 = some tiL := by kernel_rfl
theorem infoS : Tryz.prog.info? 22 = some tiS := by kernel_rfl
theorem infoE : Tryz.prog.info? 24 = some tiE := by kernel_rfl
theorem kindE (w : World) : (kind 24).run Tryz.prog w = .ok 17 w := by kernel_rfl
theorem litK (n : Nat) (h2 : 2 ≤ n) : swapperK n tiE 17 = 9 := by
 have a : tiE.hasPointers = false := by kernel_rfl
 have b : tiE.bytes = 32 := by kernel_rfl
 have c : (n == 0) = false := by simp; omega
 have d : (n == 1) = false := by simp; omega
 simp [swapperK, a, b, c, d]

/-- the world in which the sort itself is called -/
noncomputable def slW (p : Option Addr) (n c : Nat) (w : World) : World :=
 (w.alloc (.cells #[.slice p n c] 100)).alloc (.cells #[typeHandle Tryz.prog 100, .pointer (some ⟨w.heap.size, 0, none⟩), .int .u64 151] 132)
theorem slW_below (p : Option Addr) (n c : Nat) (w : World) : RowKit.Below w.heap.size w (slW p n c w) := ((RowKit.Below.refl _ w).alloc (Nat.le_refl _) _).alloc (by simp) _

set_option maxHeartbeats 2000000 in
set_option maxRecDepth 100000 in
theorem slice_of_pdq (p : Option Addr) (n c : Nat) (hn : n < 4611686018427387904) (f : Nat) (hf : Tryz.prog.funcs.findIdx? (·.name == "internal/reflectlite" ++ ".Swapper$" ++ toString (swapperK n tiE 17)) = some f) (lf : Fn) (la lb : Array Value) (w : World) (R : World → Prop)
  (hp : Calls Tryz.prog 97 #[.agg #[.func lf la lb, .func (.func f) #[] (sliceBound Tryz.prog 24 tiE 17 p n c)], .int .i64 0, .int .i64 n, .int .i64 (Lib.bitLen n)] (slW p n c w) fun e w' => e = .returned (.tuple #[]) ∧ R w') :
  Calls Tryz.prog 71 #[.iface 100 (.slice p n c), .func lf la lb] w fun e w' => e = .returned (.tuple #[]) ∧ R w' := by
 have L := lays
 have hv := nm_valueOf 100 22 24 _ tiL tiS infoL descL infoS descS p n c w
 have hs := fun w => nm_swapper 100 22 24 _ tiL tiS tiE infoL descL infoS descS infoE 17 kindE p n c f hf w
 have hl := fun a w ha => nm_len 100 22 24 _ tiL tiS infoL descL infoS descS (by kernel_rfl) a p n c w ha
 have hb := fun w => Any.bits_Len (LaysGg.n13.bits (P := Tryz.prog) (ρ := ren) { L with }) (n : Int) w (by omega) (by omega)
 change ∀ w, Calls Tryz.prog 37 _ w _ at hb
 unfold sliceBound slW at hp
 generalize (if swapperK n tiE 17 ≤ 2 then (#[] : Array Value) else #[.slice p n c, typeHandle Tryz.prog 24]) = B at hs hp
 obtain ⟨g, hg⟩ : ∃ g, typeHandle Tryz.prog 100 = .pointer (some ⟨g, 100, none⟩) := ⟨_, rfl⟩
 rw [hg] at hv hp
 simp only [hg] at hl
 clear hg
 have wr : IntKind.u64.wrap (n : Int) = n := by simp [IntKind.wrap, IntKind.bits, IntKind.signed]; omega
 have f10 := L.f10
 have f11 := L.f11
 have f12 := L.f12
 change Tryz.prog.funcs[94]? = _ at f10
 change Tryz.prog.funcs[95]? = _ at f11
 change Tryz.prog.funcs[96]? = _ at f12
 go_enter Tryz.func71, Tryz.ntmps71
 go_wp2_with fail
 rw [run_callFunc_extern f10 (by kernel_rfl) (by kernel_rfl) (by kernel_rfl) (e := fun args => Extern.ReflectliteValue.unpack (args.getD 0 (.tuple #[]))) (by kernel_rfl),
  show Sem.run Tryz.prog ((fun args : Array Value => Extern.ReflectliteValue.unpack (args.getD 0 (.tuple #[]))) #[.iface 100 (.slice p n c)]) w = _ from hv]
 simp only [Result.andThen]
 rw [Oper.upon_value]
 go_wp2_with fail
 rw [run_callFunc_extern f11 (by kernel_rfl) (by kernel_rfl) (by kernel_rfl) (e := Extern.ReflectliteSwapper.swapper "internal/reflectlite" (Extern.ReflectliteValue.valueError "Swapper")) (by kernel_rfl), hs]
 simp only [Result.andThen]
 rw [Oper.upon_value]
 go_wp2_with fail
 rw [run_callFunc_extern f12 (by kernel_rfl) (by kernel_rfl) (by kernel_rfl) (e := Extern.ReflectliteValue.method (Extern.ReflectliteValue.valueError "reflectlite.Value.Len" 0) Extern.ReflectliteValue.len) (by kernel_rfl),
  hl _ _ (by simp)]
 simp only [Result.andThen]
 rw [Oper.upon_value]
 go_wp2_with (first
  | (go_at_call 37; refine (hb _).mono ?_; rintro e w' ⟨rfl, rfl⟩)
  | (go_at_call 97; refine hp.mono ?_; rintro e w' ⟨rfl, hR⟩))
 go_end0
 exact ⟨rfl, hR⟩
end Go.Proofs.YtpeneeddfgmjpaaGreatDoor.srt
