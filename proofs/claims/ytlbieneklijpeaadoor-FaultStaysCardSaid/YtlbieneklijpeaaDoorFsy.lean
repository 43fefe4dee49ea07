/-
  FaultStays.
-/
import Derived.Test.YtlbieneklijpeaaDoorFte
import Derived.Test.YtlbieneklijpeaaDoorFno
import Derived.Test.YtlbieneklijpeaaDoorStrs
import Derived.Test.YtlbieneklijpeaaDoorFnl
namespace Go.Proofs.YtlbieneklijpeaaDoor.fault
open Go.RowKit Go.Proofs.YtlbieneklijpeaaDoor.mem Go.Proofs.YtlbieneklijpeaaDoor.sha Go.Proofs.YtlbieneklijpeaaDoor.ids Go.Proofs.YtlbieneklijpeaaDoor.rows Go.Extern.Stop Go.Stop Go.Extern

def wraps (l : List ByteArray) (o : Option Tr) : Option Tr := l.foldr wrapT o
theorem wraps_none (l : List ByteArray) : wraps l none = none := by
  induction l with
  | nil => rfl
  | cons x l ih => show wrapT x (wraps l none) = none; rw [ih]; rfl
theorem wraps_some (l : List ByteArray) (t : Tr) : ∃ u, wraps l (some t) = some u ∧ u.flt.nums = t.flt.nums ∧ u.flt.reps = t.flt.reps ∧ u.flt.ops = l ++ t.flt.ops := by
  induction l with
  | nil => exact ⟨t, rfl, rfl, rfl, rfl⟩
  | cons x l ih =>
    obtain ⟨u, h1, h2, h3, h4⟩ := ih
    exact ⟨.wr x u, by show wrapT x (wraps l (some t)) = _; rw [h1]; rfl, h2, h3, by simp [Tr.flt, h4]⟩
/-- what is put ahead of the operations -/
def ahead (l : List ByteArray) (o : Option Tr) : List ByteArray := if o.isSome then l else []
theorem wraps_flt (l : List ByteArray) (o : Option Tr) : (fltO (wraps l o)).nums = (fltO o).nums ∧ (fltO (wraps l o)).reps = (fltO o).reps ∧ (fltO (wraps l o)).ops = ahead l o ++ (fltO o).ops := by
  cases o with
  | none => rw [wraps_none]; exact ⟨rfl, rfl, rfl⟩
  | some t =>
    obtain ⟨u, h1, h2, h3, h4⟩ := wraps_some l t
    rw [h1]
    exact ⟨h2, h3, h4⟩
theorem take_succ_get {α : Type} (l : List α) (d : α) (k : Nat) (h : k < l.length) : l.take (k + 1) = l.take k ++ [l.getD k d] := by
  rw [List.take_add_one, List.getElem?_eq_getElem h, List.getD_eq_getElem?_getD, List.getElem?_eq_getElem h]
  rfl
theorem drop_get {α : Type} (l : List α) (d : α) (k : Nat) (h : k < l.length) : l.drop k = l.getD k d :: l.drop (k + 1) := by
  rw [List.drop_eq_getElem_cons h, List.getD_eq_getElem?_getD, List.getElem?_eq_getElem h]
  rfl
/-- what stands while the operations are put ahead -/
structure SySt (S : Nat) (X : Nat) (box : Array Value) (v : Value) (o : Option Tr) (f : Value) (ls : List ByteArray) (w0 w : World) : Prop where
  below : Below S w0 w
  err : LieO w (fun _ => True) v o
  wr : LieO w (fun _ => True) f (wraps ls o)

set_option maxHeartbeats 8000000 in
set_option maxRecDepth 100000 in
theorem stays_walk (A : Nat → Stp) (ad : Option Addr) (n cap : Nat) (ad2 : Option Addr) (n2 cap2 : Nat) (T : Nat → ByteArray) (w : World) (hg : Tab w) (hT : Steps w ad n A) (hn : n ≤ 9223372036854775807) (hS : kit.Strs w ad2 n2 T) (hn2 : n2 ≤ 9223372036854775807) :
    Calls Tryd.prog 4 #[.slice ad n cap, .slice ad2 n2 cap2] w fun x w' => x = .returned (.bool true) ∧ Below w.heap.size w w' := by
  have HG := Lib.hid hg
  have HSS := Lib.hid hS
  have hI2 : (n2 : Int) ≤ 9223372036854775807 := by omega
  have hI20 : (0 : Int) ≤ (n2 : Int) := Int.natCast_nonneg _
  clear hg hS
  go_enter Tryd.func4, Tryd.ntmps4
  go_upto_region 2 with (go_at_call 7; refine (made_sl A ad n cap _ hT hn).mono ?_; rintro x w1 ⟨v, a1, a2, a3, n1, z1, n3, z2, n4, z3, o, P, rfl, HL, HF, HN, HWT, HP, HB1⟩)
  obtain ⟨X, hX⟩ : ∃ X, X = w1.heap.size := ⟨_, rfl⟩
  obtain ⟨w2, hw2⟩ : ∃ u, u = w1.alloc (.cells #[.slice a1 n1 z1, .slice a2 n3 z2, .slice a3 n4 z3] 29) := ⟨_, rfl⟩
  refine wp_at hw2.symm ?_
  rw [← hX]
  have hb2 : Below w1.heap.size w1 w2 := by rw [hw2]; exact (Below.refl _ _).alloc (Nat.le_refl _) _
  have hXB : Blk w2 X 29 #[.slice a1 n1 z1, .slice a2 n3 z2, .slice a3 n4 z3] := by rw [hw2, hX]; exact Blk.new _ _ _
  have hB2 : Below w.heap.size w w2 := HB1.out.trans (hb2.mono HB1.out.size)
  have HXB := Lib.hid hXB
  have HB2 := Lib.hid hB2
  have HL2 := Lib.hid ((HL.out.next hb2).mono fun _ _ => trivial)
  have HF2 := Lib.hid (HF.out.next hb2)
  have HG2 := Lib.hid (HG.out.next hB2)
  have HS2 := Lib.hid (HSS.out.below hB2 (Nat.le_refl _))
  clear hw2 hX hb2 hXB hB2
  obtain ⟨ops, hops⟩ : ∃ l, l = (List.range (min n2 30)).map T := ⟨_, rfl⟩
  have hol : ops.length = min n2 30 := by rw [hops]; simp
  have hog : ∀ j, j < n2 → j < 30 → ops.getD j ⟨#[]⟩ = T j := fun j h1 h2 => by
    rw [hops, List.getD_eq_getElem?_getD, List.getElem?_map, List.getElem?_range (by omega)]
    rfl
  have HOL := Lib.hid hol
  have HOG := Lib.hid hog
  clear hops hol hog
  go_upto_region 5 with fail
  go_wp2_with fail
  go_loopw [7, 9] (fun f i wr => ∃ k : Nat, k ≤ n2 ∧ i = .int .i64 ((k : Int) - 1) ∧ LieO wr (fun _ => True) f (wraps (ops.drop k) o) ∧ Below w2.heap.size w2 wr) (fun _ i _ => (intOf i + 1).toNat)
  case atStart => exact ⟨n2, Nat.le_refl _, rfl, by rw [List.drop_of_length_le (by have := HOL.out; omega)]; exact HL2.out, Below.refl _ _⟩
  case round =>
    obtain ⟨k, hk, rfl, hf, hb⟩ := hrel
    rcases k with _ | j
    · rw [show (((0 : Nat) : Int) - 1) = -1 from rfl]
      rw [List.drop_zero] at hf
      obtain ⟨tgt, htg⟩ : ∃ l, l = ahead ops o := ⟨_, rfl⟩
      have htl : tgt.length ≤ n2 ∧ tgt.length ≤ 30 := by
        have := HOL.out
        rw [htg]; unfold ahead
        split
        · omega
        · exact ⟨Nat.zero_le _, Nat.zero_le _⟩
      obtain ⟨w3, rfl⟩ : ∃ u, u = wr := ⟨_, rfl⟩
      obtain ⟨f, rfl⟩ : ∃ u, u = u7 := ⟨_, rfl⟩
      have HTG := Lib.hid htg
      have HTL := Lib.hid htl
      have HFW := Lib.hid hf
      have HB3 := Lib.hid hb
      clear htg htl hf hb
      go_wp2_with fail
      go_loopw [8, 10] (fun ve i wx => ∃ k : Nat, k ≤ tgt.length ∧ i = .int .i64 k ∧ OwnC wx (w3.heap.size ≤ ·) 9 ve (texts (tgt.take k)) ∧ Below w3.heap.size w3 wx) (fun _ i _ => tgt.length - (intOf i).toNat)
      case atStart => exact ⟨0, Nat.zero_le _, rfl, OwnC.nil _ _ _, Below.refl _ _⟩
      case round =>
        obtain ⟨k, hk, rfl, hO, hb⟩ := hrel
        have hlk : (texts (tgt.take k)).length = k := by rw [texts_len, List.length_take]; omega
        have k0 : (0 : Int) ≤ (k : Int) := Int.natCast_nonneg _
        obtain ⟨adw, cpw, rfl⟩ := (hO.rdc (by have := HTL.out; omega)).1.form
        rw [hlk] at hO ⊢
        have q1 := neq_nil HL2.out
        have q0 := guard_nil HL2.out
        by_cases hlt : k < tgt.length
        · have hsome : o.isSome = true := by
            have := HTG.out
            unfold ahead at this
            split at this
            · assumption
            · rw [this] at hlt; simp at hlt
          have htgt : tgt = ops := by have := HTG.out; unfold ahead at this; rw [if_pos hsome] at this; exact this
          have hkn : k < n2 := by have := HTL.out; omega
          have hk3 : k < 30 := by have := HTL.out; omega
          have kn : (k : Int) < (n2 : Int) := by omega
          have kI : (k : Int) < 30 := by omega
          obtain ⟨b, off, rfl, hlb, hc, hsz⟩ := ((HS2.out.below HB3.out (Nat.le_refl _)).below hb (Nat.le_refl _)) k hkn
          obtain ⟨w4, hw4⟩ : ∃ u, u = wr.alloc (.cells #[.string (T k)] 9) := ⟨_, rfl⟩
          have hb4 : Below wr.heap.size wr w4 := by rw [hw4]; exact (Below.refl _ _).alloc (Nat.le_refl _) _
          have hL4 : OwnC w4 (fun _ => True) 9 (.slice (some ⟨wr.heap.size, 0, none⟩) 1 1) [.string (T k)] := by rw [hw4]; exact OwnC.laid1 wr _ _ _ (fun _ _ => trivial)
          have hO4 := hO.below hb4
          have hnw : New (w3.heap.size ≤ ·) w4 := fun q hq => Nat.le_trans hb.size (Nat.le_trans hb4.size hq)
          obtain ⟨v5, w5, hrun, hO5, ht5⟩ := run_append_c eStr hO4 (hL4.rdc (by simp)).1 (by simp [Value.oneCell']) (by rw [hlk]; simp; omega) (by rw [hlk]; simp; omega) hnw 26
          have hb5 : Below w3.heap.size w3 w5 := (hb.trans (hb4.mono hb.size)).trans ((app_turn hO4.2 hnw ht5).below fun q hq => hq)
          have hO5' : OwnC w5 (w3.heap.size ≤ ·) 9 v5 (texts (tgt.take (k + 1))) := by
            rw [take_succ_get tgt ⟨#[]⟩ k hlt, texts_app, htgt, HOG.out k hkn hk3]
            rw [htgt] at hO5
            exact hO5
          rw [hw4] at hrun
          rw [hsome] at q1
          have HO5 := Lib.hid hO5'
          have HB5 := Lib.hid hb5
          clear hO hb hb4 hL4 hO4 hO5 ht5 hO5' hb5 hw4 htgt hsome hlk
          go_wp2_with (((with_reducible refine step_append (s := .tmp 50) (x := .tmp 55) (t := 26) (vs := ?assy) (vx := ?axsy) (v' := ?avsy) (w' := ?awsy) ?agsy ?aosy ?apsy ?aqsy ?arsy ?ahsy); (case agsy => rfl); (case aosy => rfl); (case apsy => rfl); (case aqsy => rfl); (case arsy => exact hrun)))
          go_roundw
          case rel => exact ⟨k + 1, hlt, by push_cast; rfl, HO5.out, HB5.out⟩
          case measure => simp [intOf]; omega
        · obtain rfl : k = tgt.length := by omega
          rw [List.take_length] at hO hlk
          have hwf := wraps_flt ops o
          have hN := HN.out
          have hwt := HWT.out
          have hsm : (fltO o).nums.length + (fltO o).ops.length + (fltO o).reps.length ≤ 60 := hwt
          have hTL := HTL.out
          have hTG := HTG.out
          -- the row of x, and its operations
          have hBt : Below w2.heap.size w2 wr := HB3.out.trans (hb.mono HB3.out.size)
          have hX2 : wr.cell? ⟨X, 0, none⟩ = some (.slice a1 n1 z1) ∧ wr.cell? ⟨X, 1, none⟩ = some (.slice a2 n3 z2) ∧ wr.cell? ⟨X, 2, none⟩ = some (.slice a3 n4 z3) := by
            have h := HXB.out.below hBt HXB.out.lt
            exact ⟨h.cell 0, h.cell 1, h.cell 2⟩
          have hOps : RdC wr (.slice a2 n3 z2) (texts (fltO o).ops) := (HF2.out.next hBt).ops
          have hnw : New (w3.heap.size ≤ ·) wr := fun q hq => Nat.le_trans hb.size hq
          obtain ⟨v6, w6, hrun, hO6, ht6⟩ := run_append_c eStr hO hOps (texts_one _) (by rw [hlk, texts_len]; omega) (by rw [hlk, texts_len]; omega) hnw 26
          have hb6 : Below w3.heap.size w3 w6 := hb.trans ((app_turn hO.2 hnw ht6).below fun q hq => hq)
          have hB6 : Below w2.heap.size w2 w6 := HB3.out.trans (hb6.mono HB3.out.size)
          rw [← texts_app] at hO6
          have hlen6 : (texts (tgt ++ (fltO o).ops)).length = tgt.length + n3 := by rw [texts_len, List.length_append, hN.2.1]
          have hr6 := (hO6.rdc (by rw [hlen6, hN.2.1]; omega)).1
          obtain ⟨ad6, cp6, rfl⟩ := hr6.form
          rw [hlen6] at hr6 hO6 hrun
          have hL6 := HL2.out.next hB6
          have hW6 := HFW.out.next hb6
          have hG6 := HG2.out.next hB6
          obtain ⟨hd, hhd⟩ : ∃ h, h = (fltO o).nums.headD 0 := ⟨_, rfl⟩
          have hcode : ∀ u wx, (u = f ∨ u = v) → Below w6.heap.size w6 wx → Calls Tryd.prog 13 #[u] wx fun x w' => x = .returned (.int .i64 hd) ∧ Hid (Below w6.heap.size w6 w') ∧ Hid (∀ wy : World, Below wy.heap.size wy wx → Below wy.heap.size wy w') := by
            rintro u wx (rfl | rfl) h
            · have := fcode_any _ _ _ wx (hW6.next h) (hG6.next h)
              rw [hwf.1, ← hhd] at this
              exact this.mono fun x w' ⟨hx, hb⟩ => ⟨hx, Lib.hid (h.trans (hb.mono h.size)), Lib.hid fun wy hy => hy.trans (hb.mono hy.size)⟩
            · have := fcode_any _ _ _ wx (hL6.next h) (hG6.next h)
              rw [← hhd] at this
              exact this.mono fun x w' ⟨hx, hb⟩ => ⟨hx, Lib.hid (h.trans (hb.mono h.size)), Lib.hid fun wy hy => hy.trans (hb.mono hy.size)⟩
          have kOps : ∀ wx, Below w6.heap.size w6 wx → Calls Tryd.prog 9 #[f] wx fun x w' => ∃ adB cpB, x = .returned (.slice adB (tgt.length + n3) cpB) ∧ Hid (RdC w' (.slice adB (tgt.length + n3) cpB) (texts (tgt ++ (fltO o).ops))) ∧ Hid (Below w6.heap.size w6 w') := fun wx h => by
            have k := fops_any (wraps ops o) _ f wx (hW6.next h) (by rw [hwf.2.2, ← hTG, List.length_append]; omega)
            rw [hwf.2.2, ← hTG] at k
            refine k.mono fun x w' ⟨vB, hx, hOB, hbB⟩ => ?_
            have hr := (hOB.rdc (by rw [hlen6, hN.2.1]; omega)).1
            obtain ⟨adB, cpB, rfl⟩ := hr.form
            rw [hlen6] at hx hr
            exact ⟨adB, cpB, hx, Lib.hid hr, Lib.hid (h.trans (hbB.mono h.size))⟩
          have kTx : ∀ adB cpB wx, RdC wx (.slice adB (tgt.length + n3) cpB) (texts (tgt ++ (fltO o).ops)) → Below w6.heap.size w6 wx → Calls Tryd.prog 8 #[.slice adB (tgt.length + n3) cpB, .slice ad6 (tgt.length + n3) cp6] wx fun x w' => x = .returned (.bool true) ∧ ∃ m, w' = wx.drewN m := fun adB cpB wx hr h => by
            have e : tgt.length + n3 = (tgt ++ (fltO o).ops).length := by rw [List.length_append, hN.2.1]
            have hr2 := hr6.next h
            rw [e] at hr hr2 ⊢
            exact texts_any _ _ _ _ _ wx hr hr2
          have haw := fun wx (h : Below w6.heap.size w6 wx) => awake_any wx (hG6.next h)
          have hend : ∀ wx, Below w6.heap.size w6 wx → Below w.heap.size w wx := fun wx h => (HB2.out.trans (hB6.mono HB2.out.size)).trans (h.mono (Nat.le_trans HB2.out.size hB6.size))
          have hex : (n2 : Int) ≤ (tgt.length : Int) ∨ ((tgt.length : Int) < (n2 : Int) ∧ (30 : Int) ≤ (tgt.length : Int)) ∨ ((tgt.length : Int) < (n2 : Int) ∧ (tgt.length : Int) < 30 ∧ o.isSome = false) := by
            by_cases hos : o.isSome = true
            · have hto : tgt = ops := by rw [hTG]; unfold ahead; rw [if_pos hos]
              have := HOL.out
              rw [hto]
              omega
            · by_cases h1 : n2 ≤ tgt.length
              · left; omega
              · right
                by_cases h2 : 30 ≤ tgt.length
                · left; omega
                · right; exact ⟨by omega, by omega, by simpa using hos⟩
          have HWF := Lib.hid hwf
          clear hO hb hwt hsm hTL hBt hOps hnw hO6 ht6 hb6 hB6 hr6 hlen6 hN hlt hk hlk hhd hwf hTG
          rcases hex with e1 | ⟨e1, e2⟩ | ⟨e1, e2, e3⟩
          · skip
            go_upto_region 13 with fail
            obtain ⟨g0, g1, g2⟩ := hX2
            go_upto_region 14 with (((with_reducible refine step_append (s := .tmp 57) (x := .tmp 59) (t := 26) (vs := ?assz1) (vx := ?axsz1) (v' := ?avsz1) (w' := ?awsz1) ?agsz1 ?aosz1 ?apsz1 ?aqsz1 ?arsz1 ?ahsz1); (case agsz1 => rfl); (case aosz1 => rfl); (case apsz1 => rfl); (case aqsz1 => rfl); (case arsz1 => exact hrun)))
            cases hrp : (fltO o).reps with
            | nil =>
              have kR1 := freport_none (hL6.next (Below.refl _ _)) hG6 hrp
              have hrw : (fltO (wraps ops o)).reps = [] := by rw [HWF.out.2.1]; exact hrp
              go_upto_region 15 with (go_at_call 12; refine kR1.mono ?_; rintro x1 w7 ⟨rfl, hb7⟩)
              have kR2 := freport_none (hW6.next hb7) (hG6.next hb7) hrw
              go_upto_region 16 with (go_at_call 12; refine kR2.mono ?_; rintro x1 w8 ⟨rfl, hb8⟩)
              have HC1 := Lib.hid (hb7.trans (hb8.mono hb7.size))
              have hnilR : ∀ u, RdV u (.slice none 0 0) [] := fun u => ⟨okIds.nil, Nat.zero_le _, none, 0, rfl, Nat.le_refl _, Nat.zero_le _, fun _ => rfl, (fun a h => by cases h), .inl rfl⟩
              have kS : ∀ u, Calls Tryd.prog 14 #[.slice none 0 0, .slice none 0 0] u fun e w' => e = .returned (.bool true) ∧ ∃ m, w' = u.drewN m := fun u => rsame_any [] [] _ _ _ _ _ _ u (hnilR u) (hnilR u)
              clear kR1 kR2 hb7 hb8 hnilR hrp hrw
              go_wp2_with (first
                | (go_at_call 13; refine (hcode _ _ ?_ ?_).mono ?_; (first | exact .inl rfl | exact .inr rfl); (first | exact HC2.out | exact HC1.out); rintro x1 w9 ⟨rfl, HC2, -⟩)
                | (go_at_call 14; refine (kS _).mono ?_; rintro x1 wA ⟨rfl, mA, rfl⟩; have HC3 := Lib.hid (below_drewN HC2.out mA))
                | (go_at_call 9; refine (kOps _ HC3.out).mono ?_; rintro x1 wB ⟨adB, cpB, rfl, hRB, hbB⟩)
                | (go_at_call 8; refine (kTx _ _ _ hRB.out hbB.out).mono ?_; rintro x1 wC ⟨rfl, mC, rfl⟩; have HC4 := Lib.hid (below_drewN hbB.out mC))
                | (go_at_call 15; refine (haw _ HC4.out).mono ?_; rintro x1 wD ⟨rfl, hbD⟩))
              go_ret
              exact ⟨rfl, hend _ (HC4.out.trans (hbD.mono HC4.out.size))⟩
            | cons L M =>
              have hLs : L.length < 1000000 := hL6.rep_small L (by rw [hrp]; exact List.mem_cons_self)
              have kR1 := freport_some hL6 hG6 hrp
              have hrw : (fltO (wraps ops o)).reps = L :: M := by rw [HWF.out.2.1]; exact hrp
              go_upto_region 15 with (go_at_call 12; refine kR1.mono ?_; rintro x1 w7 ⟨adR, cpR, rfl, hO7, hb7⟩)
              have kR2 := freport_some (hW6.next hb7) (hG6.next hb7) hrw
              go_upto_region 16 with (go_at_call 12; refine kR2.mono ?_; rintro x1 w8 ⟨adS, cpS, rfl, hO8, hb8⟩)
              have HC1 := Lib.hid (hb7.trans (hb8.mono hb7.size))
              have hr7 := ((hO7.rdv (by omega)).1.next hb8)
              have hr8 := (hO8.rdv (by omega)).1
              have hLL : (L == L) = true := beq_self_eq_true L
              have kS : ∀ u, Below w8.heap.size w8 u → Calls Tryd.prog 14 #[.slice adR L.length cpR, .slice adS L.length cpS] u fun e w' => e = .returned (.bool true) ∧ ∃ m, w' = u.drewN m := fun u h => by
                have := rsame_any L L _ _ _ _ _ _ u (hr7.next h) (hr8.next h)
                rw [hLL] at this
                exact this
              clear kR1 kR2 hO7 hO8 hr7 hr8 hrp hrw hLL hb7 hb8
              have HD1 := Lib.hid (Below.refl w8.heap.size w8)
              go_wp2_with (first
                | (go_at_call 13; refine (hcode _ _ ?_ ?_).mono ?_; (first | exact .inl rfl | exact .inr rfl); (first | exact HC2.out | exact HC1.out); rintro x1 w9 ⟨rfl, HC2, hby⟩; have HD2 := Lib.hid (hby.out _ (by first | exact HD2.out | exact HD1.out)))
                | (go_at_call 14; refine (kS _ HD2.out).mono ?_; rintro x1 wA ⟨rfl, mA, rfl⟩; have HC3 := Lib.hid (below_drewN HC2.out mA))
                | (go_at_call 9; refine (kOps _ HC3.out).mono ?_; rintro x1 wB ⟨adB, cpB, rfl, hRB, hbB⟩)
                | (go_at_call 8; refine (kTx _ _ _ hRB.out hbB.out).mono ?_; rintro x1 wC ⟨rfl, mC, rfl⟩; have HC4 := Lib.hid (below_drewN hbB.out mC))
                | (go_at_call 15; refine (haw _ HC4.out).mono ?_; rintro x1 wD ⟨rfl, hbD⟩))
              go_ret
              exact ⟨rfl, hend _ (HC4.out.trans (hbD.mono HC4.out.size))⟩
          · have e3 : tgt.length < n2 := by omega
            have e4 : 30 ≤ tgt.length := by omega
            go_upto_region 13 with fail
            obtain ⟨g0, g1, g2⟩ := hX2
            go_upto_region 14 with (((with_reducible refine step_append (s := .tmp 57) (x := .tmp 59) (t := 26) (vs := ?assz2) (vx := ?axsz2) (v' := ?avsz2) (w' := ?awsz2) ?agsz2 ?aosz2 ?apsz2 ?aqsz2 ?arsz2 ?ahsz2); (case agsz2 => rfl); (case aosz2 => rfl); (case apsz2 => rfl); (case aqsz2 => rfl); (case arsz2 => exact hrun)))
            cases hrp : (fltO o).reps with
            | nil =>
              have kR1 := freport_none (hL6.next (Below.refl _ _)) hG6 hrp
              have hrw : (fltO (wraps ops o)).reps = [] := by rw [HWF.out.2.1]; exact hrp
              go_upto_region 15 with (go_at_call 12; refine kR1.mono ?_; rintro x1 w7 ⟨rfl, hb7⟩)
              have kR2 := freport_none (hW6.next hb7) (hG6.next hb7) hrw
              go_upto_region 16 with (go_at_call 12; refine kR2.mono ?_; rintro x1 w8 ⟨rfl, hb8⟩)
              have HC1 := Lib.hid (hb7.trans (hb8.mono hb7.size))
              have hnilR : ∀ u, RdV u (.slice none 0 0) [] := fun u => ⟨okIds.nil, Nat.zero_le _, none, 0, rfl, Nat.le_refl _, Nat.zero_le _, fun _ => rfl, (fun a h => by cases h), .inl rfl⟩
              have kS : ∀ u, Calls Tryd.prog 14 #[.slice none 0 0, .slice none 0 0] u fun e w' => e = .returned (.bool true) ∧ ∃ m, w' = u.drewN m := fun u => rsame_any [] [] _ _ _ _ _ _ u (hnilR u) (hnilR u)
              clear kR1 kR2 hb7 hb8 hnilR hrp hrw
              go_wp2_with (first
                | (go_at_call 13; refine (hcode _ _ ?_ ?_).mono ?_; (first | exact .inl rfl | exact .inr rfl); (first | exact HC2.out | exact HC1.out); rintro x1 w9 ⟨rfl, HC2, -⟩)
                | (go_at_call 14; refine (kS _).mono ?_; rintro x1 wA ⟨rfl, mA, rfl⟩; have HC3 := Lib.hid (below_drewN HC2.out mA))
                | (go_at_call 9; refine (kOps _ HC3.out).mono ?_; rintro x1 wB ⟨adB, cpB, rfl, hRB, hbB⟩)
                | (go_at_call 8; refine (kTx _ _ _ hRB.out hbB.out).mono ?_; rintro x1 wC ⟨rfl, mC, rfl⟩; have HC4 := Lib.hid (below_drewN hbB.out mC))
                | (go_at_call 15; refine (haw _ HC4.out).mono ?_; rintro x1 wD ⟨rfl, hbD⟩))
              go_ret
              exact ⟨rfl, hend _ (HC4.out.trans (hbD.mono HC4.out.size))⟩
            | cons L M =>
              have hLs : L.length < 1000000 := hL6.rep_small L (by rw [hrp]; exact List.mem_cons_self)
              have kR1 := freport_some hL6 hG6 hrp
              have hrw : (fltO (wraps ops o)).reps = L :: M := by rw [HWF.out.2.1]; exact hrp
              go_upto_region 15 with (go_at_call 12; refine kR1.mono ?_; rintro x1 w7 ⟨adR, cpR, rfl, hO7, hb7⟩)
              have kR2 := freport_some (hW6.next hb7) (hG6.next hb7) hrw
              go_upto_region 16 with (go_at_call 12; refine kR2.mono ?_; rintro x1 w8 ⟨adS, cpS, rfl, hO8, hb8⟩)
              have HC1 := Lib.hid (hb7.trans (hb8.mono hb7.size))
              have hr7 := ((hO7.rdv (by omega)).1.next hb8)
              have hr8 := (hO8.rdv (by omega)).1
              have hLL : (L == L) = true := beq_self_eq_true L
              have kS : ∀ u, Below w8.heap.size w8 u → Calls Tryd.prog 14 #[.slice adR L.length cpR, .slice adS L.length cpS] u fun e w' => e = .returned (.bool true) ∧ ∃ m, w' = u.drewN m := fun u h => by
                have := rsame_any L L _ _ _ _ _ _ u (hr7.next h) (hr8.next h)
                rw [hLL] at this
                exact this
              clear kR1 kR2 hO7 hO8 hr7 hr8 hrp hrw hLL hb7 hb8
              have HD1 := Lib.hid (Below.refl w8.heap.size w8)
              go_wp2_with (first
                | (go_at_call 13; refine (hcode _ _ ?_ ?_).mono ?_; (first | exact .inl rfl | exact .inr rfl); (first | exact HC2.out | exact HC1.out); rintro x1 w9 ⟨rfl, HC2, hby⟩; have HD2 := Lib.hid (hby.out _ (by first | exact HD2.out | exact HD1.out)))
                | (go_at_call 14; refine (kS _ HD2.out).mono ?_; rintro x1 wA ⟨rfl, mA, rfl⟩; have HC3 := Lib.hid (below_drewN HC2.out mA))
                | (go_at_call 9; refine (kOps _ HC3.out).mono ?_; rintro x1 wB ⟨adB, cpB, rfl, hRB, hbB⟩)
                | (go_at_call 8; refine (kTx _ _ _ hRB.out hbB.out).mono ?_; rintro x1 wC ⟨rfl, mC, rfl⟩; have HC4 := Lib.hid (below_drewN hbB.out mC))
                | (go_at_call 15; refine (haw _ HC4.out).mono ?_; rintro x1 wD ⟨rfl, hbD⟩))
              go_ret
              exact ⟨rfl, hend _ (HC4.out.trans (hbD.mono HC4.out.size))⟩
          · rw [e3] at q1
            have e4 : tgt.length < n2 := by omega
            have e5 : tgt.length < 30 := by omega
            clear e3
            go_upto_region 13 with fail
            obtain ⟨g0, g1, g2⟩ := hX2
            go_upto_region 14 with (((with_reducible refine step_append (s := .tmp 57) (x := .tmp 59) (t := 26) (vs := ?assz3) (vx := ?axsz3) (v' := ?avsz3) (w' := ?awsz3) ?agsz3 ?aosz3 ?apsz3 ?aqsz3 ?arsz3 ?ahsz3); (case agsz3 => rfl); (case aosz3 => rfl); (case apsz3 => rfl); (case aqsz3 => rfl); (case arsz3 => exact hrun)))
            cases hrp : (fltO o).reps with
            | nil =>
              have kR1 := freport_none (hL6.next (Below.refl _ _)) hG6 hrp
              have hrw : (fltO (wraps ops o)).reps = [] := by rw [HWF.out.2.1]; exact hrp
              go_upto_region 15 with (go_at_call 12; refine kR1.mono ?_; rintro x1 w7 ⟨rfl, hb7⟩)
              have kR2 := freport_none (hW6.next hb7) (hG6.next hb7) hrw
              go_upto_region 16 with (go_at_call 12; refine kR2.mono ?_; rintro x1 w8 ⟨rfl, hb8⟩)
              have HC1 := Lib.hid (hb7.trans (hb8.mono hb7.size))
              have hnilR : ∀ u, RdV u (.slice none 0 0) [] := fun u => ⟨okIds.nil, Nat.zero_le _, none, 0, rfl, Nat.le_refl _, Nat.zero_le _, fun _ => rfl, (fun a h => by cases h), .inl rfl⟩
              have kS : ∀ u, Calls Tryd.prog 14 #[.slice none 0 0, .slice none 0 0] u fun e w' => e = .returned (.bool true) ∧ ∃ m, w' = u.drewN m := fun u => rsame_any [] [] _ _ _ _ _ _ u (hnilR u) (hnilR u)
              clear kR1 kR2 hb7 hb8 hnilR hrp hrw
              go_wp2_with (first
                | (go_at_call 13; refine (hcode _ _ ?_ ?_).mono ?_; (first | exact .inl rfl | exact .inr rfl); (first | exact HC2.out | exact HC1.out); rintro x1 w9 ⟨rfl, HC2, -⟩)
                | (go_at_call 14; refine (kS _).mono ?_; rintro x1 wA ⟨rfl, mA, rfl⟩; have HC3 := Lib.hid (below_drewN HC2.out mA))
                | (go_at_call 9; refine (kOps _ HC3.out).mono ?_; rintro x1 wB ⟨adB, cpB, rfl, hRB, hbB⟩)
                | (go_at_call 8; refine (kTx _ _ _ hRB.out hbB.out).mono ?_; rintro x1 wC ⟨rfl, mC, rfl⟩; have HC4 := Lib.hid (below_drewN hbB.out mC))
                | (go_at_call 15; refine (haw _ HC4.out).mono ?_; rintro x1 wD ⟨rfl, hbD⟩))
              go_ret
              exact ⟨rfl, hend _ (HC4.out.trans (hbD.mono HC4.out.size))⟩
            | cons L M =>
              have hLs : L.length < 1000000 := hL6.rep_small L (by rw [hrp]; exact List.mem_cons_self)
              have kR1 := freport_some hL6 hG6 hrp
              have hrw : (fltO (wraps ops o)).reps = L :: M := by rw [HWF.out.2.1]; exact hrp
              go_upto_region 15 with (go_at_call 12; refine kR1.mono ?_; rintro x1 w7 ⟨adR, cpR, rfl, hO7, hb7⟩)
              have kR2 := freport_some (hW6.next hb7) (hG6.next hb7) hrw
              go_upto_region 16 with (go_at_call 12; refine kR2.mono ?_; rintro x1 w8 ⟨adS, cpS, rfl, hO8, hb8⟩)
              have HC1 := Lib.hid (hb7.trans (hb8.mono hb7.size))
              have hr7 := ((hO7.rdv (by omega)).1.next hb8)
              have hr8 := (hO8.rdv (by omega)).1
              have hLL : (L == L) = true := beq_self_eq_true L
              have kS : ∀ u, Below w8.heap.size w8 u → Calls Tryd.prog 14 #[.slice adR L.length cpR, .slice adS L.length cpS] u fun e w' => e = .returned (.bool true) ∧ ∃ m, w' = u.drewN m := fun u h => by
                have := rsame_any L L _ _ _ _ _ _ u (hr7.next h) (hr8.next h)
                rw [hLL] at this
                exact this
              clear kR1 kR2 hO7 hO8 hr7 hr8 hrp hrw hLL hb7 hb8
              have HD1 := Lib.hid (Below.refl w8.heap.size w8)
              go_wp2_with (first
                | (go_at_call 13; refine (hcode _ _ ?_ ?_).mono ?_; (first | exact .inl rfl | exact .inr rfl); (first | exact HC2.out | exact HC1.out); rintro x1 w9 ⟨rfl, HC2, hby⟩; have HD2 := Lib.hid (hby.out _ (by first | exact HD2.out | exact HD1.out)))
                | (go_at_call 14; refine (kS _ HD2.out).mono ?_; rintro x1 wA ⟨rfl, mA, rfl⟩; have HC3 := Lib.hid (below_drewN HC2.out mA))
                | (go_at_call 9; refine (kOps _ HC3.out).mono ?_; rintro x1 wB ⟨adB, cpB, rfl, hRB, hbB⟩)
                | (go_at_call 8; refine (kTx _ _ _ hRB.out hbB.out).mono ?_; rintro x1 wC ⟨rfl, mC, rfl⟩; have HC4 := Lib.hid (below_drewN hbB.out mC))
                | (go_at_call 15; refine (haw _ HC4.out).mono ?_; rintro x1 wD ⟨rfl, hbD⟩))
              go_ret
              exact ⟨rfl, hend _ (HC4.out.trans (hbD.mono HC4.out.size))⟩
    · rw [show (((j + 1 : Nat) : Int) - 1) = (j : Int) by omega]
      obtain ⟨b, off, rfl, hlt, hc, hsz⟩ := (HS2.out.below hb (Nat.le_refl _)) j (by omega)
      have j0 : (0 : Int) ≤ (j : Int) := Int.natCast_nonneg _
      have jn : (j : Int) < (n2 : Int) := by omega
      have HB3 := Lib.hid hb
      have HFW := Lib.hid hf
      clear hb hf
      by_cases h30 : j < 30
      · have jI : (j : Int) < 30 := by omega
        have kW := fwrap_any (T j) (wraps (ops.drop (j + 1)) o) _ u7 wr HFW.out (by omega)
        go_wp2_with (go_at_call 16; refine kW.mono ?_; rintro x1 w4 ⟨v4, rfl, hl4, hb4⟩)
        go_roundw
        case rel =>
          refine ⟨j, by omega, rfl, ?_, HB3.out.trans (hb4.mono HB3.out.size)⟩
          rw [drop_get ops ⟨#[]⟩ j (by have := HOL.out; omega), HOG.out j (by omega) h30]
          exact hl4.mono fun _ _ => trivial
        case measure => simp [intOf]
      · have jI : (30 : Int) ≤ (j : Int) := by omega
        go_wp2_with fail
        go_roundw
        case rel =>
          refine ⟨j, by omega, rfl, ?_, HB3.out⟩
          rw [List.drop_of_length_le (by have := HOL.out; omega)]
          have := HFW.out
          rw [List.drop_of_length_le (by have := HOL.out; omega)] at this
          exact this
        case measure => simp [intOf]
end Go.Proofs.YtlbieneklijpeaaDoor.fault
