/-
  The walk of VaultKeeps, by what vault's functions answer.
-/
import Derived.Test.YtkbbeioednhefaaDoorVtis
import Derived.Test.YtkbbeioednhefaaDoorOpenbl
import Derived.Deep.CutRange
import Derived.Deep.CutBlock
namespace Go.Proofs.YtkbbeioednhefaaDoor.vt
open Go.RowKit Go.Proofs.YtkbbeioednhefaaDoor.mem Go.Proofs.YtkbbeioednhefaaDoor.sha Go.Proofs.YtkbbeioednhefaaDoor.strx Go.Proofs.YtkbbeioednhefaaDoor.rows Go.Proofs.YtkbbeioednhefaaDoor.ids Go.Proofs.YtkbbeioednhefaaDoor.rcd Go.Proofs.YtkbbeioednhefaaDoor.jn Go.Proofs.YtkbbeioednhefaaDoor.txl Go.Proofs.YtkbbeioednhefaaDoor.bls

section
variable {T : World → Prop} {Vt_ : (Nat → Prop) → World → Value → Vt → Prop}
/-- the vault, and the list of what was appended beside it -/
structure KV (T : World → Prop) (Vt_ : (Nat → Prop) → World → Value → Vt → Prop) (w0 : World) (G : Nat → Prop) (p : Value) (A : List (List UInt8)) (m : Nat) (v : Value) (w : World) : Prop where
  vs : VS T Vt_ w0 G p ⟨fileJ (firstG A) (m + 2), j0, 0, 0⟩ w
  own : OwnT w (fun k => w0.heap.size ≤ k ∧ ¬ G k) v A
  m : m ≤ A.length
  ok : ∀ s ∈ A, s.length ≤ 300
/-- one more text, appended to the vault at w, to the list from w' on -/
theorem KV.more (hI : VtIs T Vt_) {w0 w w' : World} {G : Nat → Prop} {p v : Value} {A : List (List UInt8)} {m : Nat} (hT : T w0) (h : KV T Vt_ w0 G p A m v w) (t : ByteArray) (hr : t.data.toList.length ≤ 300) (hA : A.length ≤ 1000)
    (hj : Vt_ G w' p ⟨fileJ (firstG (A ++ [t.data.toList])) (m + 2), j0, 0, 0⟩) (ht : Turn G w w') :
    ∃ v' w3, (Builtin.append_ #[57, 57] 57 #[v, .slice (some ⟨w'.heap.size, 0, none⟩) 1 1]).run Tryd.prog (w'.alloc (.cells #[.string t] 9)) = .ok v' w3 ∧ ∃ G', KV T Vt_ w0 G' p (A ++ [t.data.toList]) m v' w3 := by
  have ho : OwnT w' (fun k => w0.heap.size ≤ k ∧ ¬ G k) v A := OwnK.turn h.own ht fun k hk hg => (h.own.2.2 k hk).2 hg
  have hj2 := h.vs.op hI hT hj ht
  obtain ⟨v', w3, hrun, hO, hT4⟩ := push_tx ho t (by omega)
  obtain ⟨G', hjs, hg1, hg2⟩ := hj2.aside hI hT hT4 (fun k hk hf hg => hf.elim (fun e => (ho.2.2 k e).2 hg) (fun e => by omega)) (fun k hf => hf.elim (fun e => (ho.2.2 k e).1) (fun e => Nat.le_trans hj2.below.size e))
  have hz := hj2.below.size
  refine ⟨v', w3, hrun, G', hjs, OwnK.place hO fun k hk => ?_, by rw [List.length_append]; have := h.m; omega, fun x hx => (List.mem_append.1 hx).elim (h.ok x) (fun e => by rw [List.mem_singleton.1 e]; exact hr)⟩
  have hlt := OwnK.lt hO hk
  rcases hO.2.2 k hk with e | e
  · exact ⟨(ho.2.2 k e).1, fun hg => (ho.2.2 k e).2 (hg1 k hg)⟩
  · exact ⟨by omega, fun hg => (hg2 k hg).elim (fun x => by omega) (fun x => by omega)⟩
theorem KV.sync (hI : VtIs T Vt_) {w0 w w' : World} {G : Nat → Prop} {p v : Value} {A : List (List UInt8)} {m : Nat} (hT : T w0) (h : KV T Vt_ w0 G p A m v w) (hj : Vt_ G w' p (syncV ⟨fileJ (firstG A) (m + 2), j0, 0, 0⟩).1) (ht : Turn G w w') : KV T Vt_ w0 G p A A.length v w' := by
  refine ⟨?_, OwnK.turn h.own ht fun k hk hg => (h.own.2.2 k hk).2 hg, Nat.le_refl _, h.ok⟩
  rw [keep_sync] at hj
  exact h.vs.op hI hT hj ht
set_option maxHeartbeats 8000000 in
set_option maxRecDepth 100000 in
theorem keeps_walk (hI : VtIs T Vt_) {L : List (List UInt8)} {N : Nat → Prop} {v : Value} {w : World} (ad1 : Option Addr) (n1 c1 : Nat) (S1 : Nat → Bool) (q : Int) (hT : T w) (hR : TxA w N v L) (hB1 : Bools w ad1 n1 S1) (hl : L.length ≤ 9223372036854775807) (hl1 : n1 ≤ 9223372036854775807) :
    Calls Tryd.prog 6 #[v, .slice ad1 n1 c1, .int .i64 q] w fun e w' => e = .returned (.bool true) ∧ Below w.heap.size w w' := by
  obtain ⟨ad, cap, rfl, hC⟩ := hR
  have HI := Lib.hid hI
  have HT := Lib.hid hT
  have HC := Lib.hid hC
  have HBO := Lib.hid hB1
  obtain ⟨n, hn⟩ : ∃ n, n = L.length := ⟨_, rfl⟩
  have HN := Lib.hid hn
  rw [← hn] at hl ⊢
  have n0 : (0 : Int) ≤ (n : Int) := Int.natCast_nonneg _
  have HNW := Lib.hid (hI.new w hT)
  rw [new_file] at HNW
  clear hI hT hC hB1 hn
  go_enter Tryd.func6, Tryd.ntmps6
  go_wp2_with (go_at_call 25; (with_reducible refine HNW.out.mono ?_); rintro e w1 ⟨p, rfl, hk1, hb1⟩; have K2 := Lib.hid (show KV T Vt_ w (w.heap.size ≤ ·) p [] 0 (.slice none 0 0) w1 from ⟨VS.start HI.out HT.out hk1 hb1, OwnK.nil _ _ _ _, Nat.le_refl _, fun r hr => by cases hr⟩); clear hk1 hb1)
  go_loopg [8, 9, 10] 31 (fun gk s8 s9 s10 wr => ∃ (i m : Nat) (A : List (List UInt8)) (G : Nat → Prop), s10 = .int .i64 i ∧ i ≤ n ∧ i ≤ 30 ∧ 31 - i ≤ gk ∧ s9 = .int .i64 m ∧ A.length ≤ i ∧ Hid (KV T Vt_ w G p A m s8 wr))
  case atStart => exact ⟨0, 0, [], (w.heap.size ≤ ·), rfl, Nat.zero_le _, Nat.zero_le _, by omega, rfl, Nat.le_refl _, K2⟩
  case round =>
    obtain ⟨i, m, A, G, rfl, hi, hi40, hgk, rfl, hAl, HK⟩ := hrel
    clear K2
    have i0 : (0 : Int) ≤ (i : Int) := Int.natCast_nonneg _
    by_cases hlt : i < n ∧ i < 30
    · obtain ⟨hin, hi2⟩ := hlt
      obtain ⟨bb, off, rfl, hbl, _, a0⟩ := HC.out i (by have := HN.out; omega)
      have i1 : (i : Int) < (n : Int) := by omega
      have i2 : (i : Int) < 30 := by omega
      have hbk := HK.out.vs.below
      replace a0 := (hbk.cell (p := ⟨bb, off + i, none⟩) hbl).trans a0
      obtain ⟨s, hs⟩ : ∃ s, s = L.getD i [] := ⟨_, rfl⟩
      rw [← hs] at a0
      have htz := bt_size s
      obtain ⟨t, ht⟩ : ∃ t, t = bt s := ⟨_, rfl⟩
      rw [← ht] at a0 htz
      have hbw : bb < wr.heap.size := Nat.lt_of_lt_of_le hbl hbk.size
      have hts : t.data.toList = s := by rw [ht, bt_list]
      have HTT := Lib.hid hts
      clear hs hbk ht hts
      by_cases hb3 : s.length < 300
      case neg =>
        have hb3z : ¬ (t.size : Int) < 300 := by omega
        clear htz
        go_upto_region 9 with fail
        by_cases hi1b : (i : Int) < (n1 : Int)
        · obtain ⟨b1, o1, rfl, hbl1, hbc⟩ := HBO.out i (by omega)
          replace hbc := (HK.out.vs.below.cell (p := ⟨b1, o1 + i, none⟩) hbl1).trans hbc
          by_cases hS : S1 i = true
          · rw [hS] at hbc
            obtain ⟨a9, q9, h9⟩ := OwnK.form HK.out.own
            rw [List.length_map] at h9
            subst h9
            have HSY := Lib.hid (HI.out.sync G p _ _ HK.out.vs.t HK.out.vs.n HK.out.vs.v (first_small (by omega) HK.out.ok _ 0 0))
            go_wp2_with (go_at_call 27; (with_reducible refine HSY.out.mono ?_); rintro e wS ⟨rfl, hjS, htS⟩; have KF := Lib.hid (HK.out.sync HI.out HT.out hjS htS); clear hjS htS)
            go_roundg (30 - i)
            case measure => omega
            case rel => exact ⟨i + 1, _, A, G, by go_num, hin, hi2, by omega, rfl, by omega, KF⟩
          · have hS' : S1 i = false := by simpa using hS
            rw [hS'] at hbc
            go_wp2_with fail
            go_roundg (30 - i)
            case measure => omega
            case rel => exact ⟨i + 1, m, A, G, by go_num, hin, hi2, by omega, rfl, by omega, HK⟩
        · go_wp2_with fail
          go_roundg (30 - i)
          case measure => omega
          case rel => exact ⟨i + 1, m, A, G, by go_num, hin, hi2, by omega, rfl, by omega, HK⟩
      have hb3z : (t.size : Int) < 300 := by omega
      have hap := keep_app A (m + 2) (by have := HK.out.m; omega) s (by omega)
      have HAP := Lib.hid (HI.out.append G p _ t wr HK.out.vs.t HK.out.vs.n HK.out.vs.v (first_small (by omega) HK.out.ok _ 0 0) (by omega))
      rw [HTT.out, hap] at HAP
      simp only at HAP
      have KM := Lib.hid fun wA hj (ht : Turn G wr wA) => HK.out.more HI.out HT.out t (w' := wA) (by rw [HTT.out]; omega) (by omega) hj ht
      rw [HTT.out] at KM
      have hbG : ∀ wA, Turn G wr wA → wA.cell? ⟨bb, off + i, none⟩ = some (.string t) := fun wA ht => by
        have hnb : ¬ G bb := fun hg => by have := HK.out.vs.g bb hg; omega
        exact (ht.cell (b := bb) (i := off + i) hnb).trans a0
      have HBG := Lib.hid hbG
      clear hap htz hbG
      go_upto_region 8 with (go_at_call 26; (with_reducible refine HAP.out.mono ?_); rintro e2 wA ⟨rfl, hjA, htA⟩; have a0' := HBG.out wA htA; obtain ⟨v9, w9, hrun, G9, hK9⟩ := KM.out wA hjA htA; have K9 := Lib.hid hK9; clear hjA htA hK9)
      go_upto_region 9 with ((with_reducible refine step_append (s := .tmp 38) (x := .tmp 43) (t := 57) (vs := ?as1) (vx := ?ax1) (v' := ?av1) (w' := ?aw1) ?ag1 ?ao1 ?ap1 ?aq1 ?ar1 ?ah1); (case ag1 => rfl); (case ao1 => rfl); (case ap1 => rfl); (case aq1 => rfl); (case ar1 => exact hrun))
      clear hrun
      obtain ⟨A9, hA9⟩ : ∃ x, x = A ++ [s] := ⟨_, rfl⟩
      rw [← hA9] at K9
      have hA9l : A9.length ≤ i + 1 := by rw [hA9, List.length_append, List.length_singleton]; omega
      clear hA9
      by_cases hi1b : (i : Int) < (n1 : Int)
      · obtain ⟨b1, o1, rfl, hbl1, hbc⟩ := HBO.out i (by omega)
        replace hbc := (K9.out.vs.below.cell (p := ⟨b1, o1 + i, none⟩) hbl1).trans hbc
        by_cases hS : S1 i = true
        · rw [hS] at hbc
          obtain ⟨a9, q9, h9⟩ := OwnK.form K9.out.own
          rw [List.length_map] at h9
          subst h9
          have HSY := Lib.hid (HI.out.sync G9 p _ _ K9.out.vs.t K9.out.vs.n K9.out.vs.v (first_small (by omega) K9.out.ok _ 0 0))
          go_wp2_with (go_at_call 27; (with_reducible refine HSY.out.mono ?_); rintro e wS ⟨rfl, hjS, htS⟩; have KF := Lib.hid (K9.out.sync HI.out HT.out hjS htS); clear hjS htS)
          go_roundg (30 - i)
          case measure => omega
          case rel => exact ⟨i + 1, _, A9, G9, by go_num, hin, hi2, by omega, rfl, by omega, KF⟩
        · have hS' : S1 i = false := by simpa using hS
          rw [hS'] at hbc
          go_wp2_with fail
          go_roundg (30 - i)
          case measure => omega
          case rel => exact ⟨i + 1, m, A9, G9, by go_num, hin, hi2, by omega, rfl, by omega, K9⟩
      · go_wp2_with fail
        go_roundg (30 - i)
        case measure => omega
        case rel => exact ⟨i + 1, m, A9, G9, by go_num, hin, hi2, by omega, rfl, by omega, K9⟩
    · by_cases hin : (i : Int) < (n : Int)
      · have hi6 : ¬ (i : Int) < 30 := by omega
        obtain ⟨W, hcr, hmW, hWA⟩ := keep_crash A (fun s hs => Nat.le_trans (HK.out.ok s hs) (by decide)) (m + 2) (by omega) (by have := HK.out.m; omega) q
        have hsm : ∀ (B : List (List UInt8)) k, B.length ≤ 30 → (∀ s ∈ B, s.length ≤ 300) → smallV ⟨fileJ (firstG B) k, j0, 0, 0⟩ := fun B k h1 h2 => first_small (by omega) h2 k 0 0
        have HCR := Lib.hid fun G1 p1 u (h : VS T Vt_ w G1 p1 ⟨fileJ (firstG A) (m + 2), j0, 0, 0⟩ u) => HI.out.crash G1 p1 _ q u h.t h.n h.v (hsm A _ (by omega) HK.out.ok)
        rw [hcr] at HCR
        obtain ⟨B, hB⟩ : ∃ B, B = A.take W := ⟨_, rfl⟩
        have hBl : B.length = W := by rw [hB, List.length_take]; omega
        have hBok : ∀ s ∈ B, s.length ≤ 300 := fun s hs => HK.out.ok s (by rw [hB] at hs; exact List.mem_of_mem_take hs)
        rw [← hB] at HCR
        simp only at HCR
        obtain ⟨W2, hcr2, hmW2, hWA2⟩ := keep_crash B (fun s hs => Nat.le_trans (hBok s hs) (by decide)) (W + 2) (by omega) (by omega) q
        have HC2 := Lib.hid fun G1 p1 u (h : VS T Vt_ w G1 p1 ⟨fileJ (firstG B) (W + 2), j0, 0, 0⟩ u) => HI.out.crash G1 p1 _ q u h.t h.n h.v (hsm B _ (by omega) hBok)
        rw [hcr2, List.take_of_length_le (by omega)] at HC2
        simp only at HC2
        obtain ⟨ad9, cap9, h9⟩ := OwnK.form HK.out.own
        rw [List.length_map] at h9
        subst h9
        have hsl := fun u => slice_own HK.out.own W hWA u
        have HOB := Lib.hid ((OwnT.txa HK.out.own).cut W hWA)
        rw [← hB] at HOB
        have HAl : A.length ≤ 30 := by omega
        have HBL := Lib.hid hBl
        have hm0 : (m : Int) ≤ (W : Int) := by omega
        have hw0 : (W : Int) ≤ (A.length : Int) := by omega
        have HV := Lib.hid HK.out.vs
        have hdd : decide (B = B) = true := decide_eq_true rfl
        have HTE := Lib.hid fun u (N M : Nat → Prop) va vb (h1 : TxA u N va B) (h2 : TxA u M vb B) => texts_any h1 h2 (by omega)
        rw [hdd] at HTE
        clear hcr hcr2 hB hBl hBok hsm hWA2 hmW2 hmW hWA HK
        go_wp2_with (first
          | (go_at_call 28; (with_reducible refine (HCR.out _ _ _ HV.out).mono ?_); rintro e w4 ⟨v4, rfl, hL4⟩; obtain ⟨G4, S4, hg4, hl4, ht4⟩ := HV.out.left HI.out HT.out hL4; have S4' := Lib.hid S4; have O4b := Lib.hid (HOB.out.turn ht4 fun k hk hg => hg.2); have O4 := Lib.hid hl4; obtain ⟨ad4, cap4, hv4⟩ := hl4.form; rw [HBL.out] at hv4; subst hv4; clear hL4 S4 hl4 ht4 HOB HV)
          | (go_at_call 29; (with_reducible refine (HTE.out _ _ _ _ _ O4.out O4b.out).mono ?_); rintro e w5 ⟨rfl, hb5⟩; have S5 := Lib.hid (S4'.out.next HI.out hb5); have O5 := Lib.hid (O4.out.next hb5); clear hb5 O4b)
          | (go_at_call 28; (with_reducible refine (HC2.out _ _ _ S5.out).mono ?_); rintro e w6 ⟨v6, rfl, hL6⟩; obtain ⟨G6, S6, hg6, hl6, ht6⟩ := S5.out.left HI.out HT.out hL6; have S6' := Lib.hid S6; have O6 := Lib.hid hl6; have O6b := Lib.hid (O5.out.turn ht6 fun k hk hg => hg); clear hL6 S6 hl6 ht6 hg6 S5)
          | (go_at_call 29; (with_reducible refine (HTE.out _ _ _ _ _ O6.out O6b.out).mono ?_); rintro e w7 ⟨rfl, hb7⟩; have S7 := Lib.hid (S6'.out.next HI.out hb7); clear hb7)
          | (go_at_call 30; (with_reducible refine (awake_any HI.out _ S7.out.t).mono ?_); rintro e w9 ⟨rfl, hb9⟩))
        go_ret
        exact ⟨rfl, S7.out.below.trans (hb9.mono S7.out.below.size)⟩
      · skip
        obtain ⟨W, hcr, hmW, hWA⟩ := keep_crash A (fun s hs => Nat.le_trans (HK.out.ok s hs) (by decide)) (m + 2) (by omega) (by have := HK.out.m; omega) q
        have hsm : ∀ (B : List (List UInt8)) k, B.length ≤ 30 → (∀ s ∈ B, s.length ≤ 300) → smallV ⟨fileJ (firstG B) k, j0, 0, 0⟩ := fun B k h1 h2 => first_small (by omega) h2 k 0 0
        have HCR := Lib.hid fun G1 p1 u (h : VS T Vt_ w G1 p1 ⟨fileJ (firstG A) (m + 2), j0, 0, 0⟩ u) => HI.out.crash G1 p1 _ q u h.t h.n h.v (hsm A _ (by omega) HK.out.ok)
        rw [hcr] at HCR
        obtain ⟨B, hB⟩ : ∃ B, B = A.take W := ⟨_, rfl⟩
        have hBl : B.length = W := by rw [hB, List.length_take]; omega
        have hBok : ∀ s ∈ B, s.length ≤ 300 := fun s hs => HK.out.ok s (by rw [hB] at hs; exact List.mem_of_mem_take hs)
        rw [← hB] at HCR
        simp only at HCR
        obtain ⟨W2, hcr2, hmW2, hWA2⟩ := keep_crash B (fun s hs => Nat.le_trans (hBok s hs) (by decide)) (W + 2) (by omega) (by omega) q
        have HC2 := Lib.hid fun G1 p1 u (h : VS T Vt_ w G1 p1 ⟨fileJ (firstG B) (W + 2), j0, 0, 0⟩ u) => HI.out.crash G1 p1 _ q u h.t h.n h.v (hsm B _ (by omega) hBok)
        rw [hcr2, List.take_of_length_le (by omega)] at HC2
        simp only at HC2
        obtain ⟨ad9, cap9, h9⟩ := OwnK.form HK.out.own
        rw [List.length_map] at h9
        subst h9
        have hsl := fun u => slice_own HK.out.own W hWA u
        have HOB := Lib.hid ((OwnT.txa HK.out.own).cut W hWA)
        rw [← hB] at HOB
        have HAl : A.length ≤ 30 := by omega
        have HBL := Lib.hid hBl
        have hm0 : (m : Int) ≤ (W : Int) := by omega
        have hw0 : (W : Int) ≤ (A.length : Int) := by omega
        have HV := Lib.hid HK.out.vs
        have hdd : decide (B = B) = true := decide_eq_true rfl
        have HTE := Lib.hid fun u (N M : Nat → Prop) va vb (h1 : TxA u N va B) (h2 : TxA u M vb B) => texts_any h1 h2 (by omega)
        rw [hdd] at HTE
        clear hcr hcr2 hB hBl hBok hsm hWA2 hmW2 hmW hWA HK
        go_wp2_with (first
          | (go_at_call 28; (with_reducible refine (HCR.out _ _ _ HV.out).mono ?_); rintro e w4 ⟨v4, rfl, hL4⟩; obtain ⟨G4, S4, hg4, hl4, ht4⟩ := HV.out.left HI.out HT.out hL4; have S4' := Lib.hid S4; have O4b := Lib.hid (HOB.out.turn ht4 fun k hk hg => hg.2); have O4 := Lib.hid hl4; obtain ⟨ad4, cap4, hv4⟩ := hl4.form; rw [HBL.out] at hv4; subst hv4; clear hL4 S4 hl4 ht4 HOB HV)
          | (go_at_call 29; (with_reducible refine (HTE.out _ _ _ _ _ O4.out O4b.out).mono ?_); rintro e w5 ⟨rfl, hb5⟩; have S5 := Lib.hid (S4'.out.next HI.out hb5); have O5 := Lib.hid (O4.out.next hb5); clear hb5 O4b)
          | (go_at_call 28; (with_reducible refine (HC2.out _ _ _ S5.out).mono ?_); rintro e w6 ⟨v6, rfl, hL6⟩; obtain ⟨G6, S6, hg6, hl6, ht6⟩ := S5.out.left HI.out HT.out hL6; have S6' := Lib.hid S6; have O6 := Lib.hid hl6; have O6b := Lib.hid (O5.out.turn ht6 fun k hk hg => hg); clear hL6 S6 hl6 ht6 hg6 S5)
          | (go_at_call 29; (with_reducible refine (HTE.out _ _ _ _ _ O6.out O6b.out).mono ?_); rintro e w7 ⟨rfl, hb7⟩; have S7 := Lib.hid (S6'.out.next HI.out hb7); clear hb7)
          | (go_at_call 30; (with_reducible refine (awake_any HI.out _ S7.out.t).mono ?_); rintro e w9 ⟨rfl, hb9⟩))
        go_ret
        exact ⟨rfl, S7.out.below.trans (hb9.mono S7.out.below.size)⟩
end
end Go.Proofs.YtkbbeioednhefaaDoor.vt
