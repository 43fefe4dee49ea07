/-
  The walk of JournalKeeps, by what journal's functions answer.
-/
import Derived.Test.YtlnpemnolldooaaDoorJnis
import Derived.Test.YtlnpemnolldooaaDoorJna
import Derived.Test.YtlnpemnolldooaaDoorBls
import Derived.Deep.CutRange
import Derived.Deep.CutBlock
namespace Go.Proofs.YtlnpemnolldooaaDoor.jn
open Go.RowKit Go.Proofs.YtlnpemnolldooaaDoor.bls Go.Proofs.YtlnpemnolldooaaDoor.mem Go.Proofs.YtlnpemnolldooaaDoor.sha Go.Proofs.YtlnpemnolldooaaDoor.opn Go.Proofs.YtlnpemnolldooaaDoor.rows Go.Proofs.YtlnpemnolldooaaDoor.ids Go.Proofs.YtlnpemnolldooaaDoor.rcd

theorem ornext {w w' : World} {F : Nat → Prop} {v : Value} {L : List Rc} (h : OwnR w F v L) (hb : Below w.heap.size w w') : OwnR w' F v L := OwnK.next h hb
theorem orturn {w w' : World} {F G : Nat → Prop} {v : Value} {L : List Rc} (h : OwnR w F v L) (ht : Turn G w w') (hg : ∀ k, v.ownBlock = some k → ¬ G k) : OwnR w' F v L := OwnK.turn h ht hg
theorem enL_le309 : ∀ (G : List Rc), (∀ r ∈ G, checkR r = 0 ∧ r.body.length ≤ 300) → (enL G).length ≤ G.length * 309
  | [], _ => by simp [enL]
  | r :: G, h => by
    have := enL_le309 G fun x hx => h x (List.mem_cons_of_mem _ hx)
    have h1 := (h r List.mem_cons_self).2
    rw [enL_cons, List.length_append, List.length_cons, enR_len]
    omega
section
variable {T : World → Prop} {Bk : (Nat → Prop) → World → Value → List UInt8 → Prop} {Jn : (Nat → Prop) → World → Value → Value → Jr → Prop}
/-- the journal, and the list of what was appended beside it -/
structure KS (T : World → Prop) (Jn : (Nat → Prop) → World → Value → Value → Jr → Prop) (w0 : World) (G : Nat → Prop) (p b : Value) (A : List Rc) (m : Nat) (v : Value) (w : World) : Prop where
  js : Js T Jn w0 G p b ⟨enL A, (enL (A.take m)).length, A, m⟩ w
  own : OwnR w (fun k => w0.heap.size ≤ k ∧ ¬ G k) v A
  m : m ≤ A.length
  ok : ∀ r ∈ A, checkR r = 0 ∧ r.body.length ≤ 300
theorem KS.next (hI : JnIs T Bk Jn) {w0 w w' : World} {G : Nat → Prop} {p b v : Value} {A : List Rc} {m : Nat} (h : KS T Jn w0 G p b A m v w) (hb : Below w.heap.size w w') : KS T Jn w0 G p b A m v w' :=
  ⟨h.js.next hI hb, OwnK.next h.own hb, h.m, h.ok⟩
/-- one more record, appended to the journal at w, to the list from w' on -/
theorem KS.more (hI : JnIs T Bk Jn) {w0 w w' : World} {G : Nat → Prop} {p b v : Value} {A : List Rc} {m : Nat} (hT : T w0) (h : KS T Jn w0 G p b A m v w) (r : Rc) (hr : checkR r = 0 ∧ r.body.length ≤ 300) (hA : A.length ≤ 1000)
    (hj : Jn G w' p b (appJ ⟨enL A, (enL (A.take m)).length, A, m⟩ r).1) (ht : Turn G w w') :
    ∃ v' w3, (Builtin.append_ #[29, 29] 29 #[v, .slice (some ⟨w'.heap.size, 0, none⟩) 1 1]).run Tryd.prog (w'.alloc (.cells #[.int .i64 r.k, .string (oct.tx r.body)] 39)) = .ok v' w3 ∧ ∃ G', KS T Jn w0 G' p b (A ++ [r]) m v' w3 := by
  have ho : OwnR w' (fun k => w0.heap.size ≤ k ∧ ¬ G k) v A := OwnK.turn h.own ht fun k hk hg => (h.own.2.2 k hk).2 hg
  have hj2 : Js T Jn w0 G p b ⟨enL (A ++ [r]), (enL ((A ++ [r]).take m)).length, A ++ [r], m⟩ w' := by
    have := h.js.op hI hT hj ht
    unfold appJ at this
    rw [if_neg (by rw [hr.1]; simp)] at this
    rw [enL_snoc, List.take_append_of_le_length h.m]
    exact this
  have h1 : Below w'.heap.size w' (w'.alloc (.cells #[.int .i64 r.k, .string (oct.tx r.body)] 39)) := (Below.refl _ _).alloc (Nat.le_refl _) _
  obtain ⟨v', w3, hrun, hO, hT3⟩ := app_one (OwnK.next ho h1) r (Blk.new w' _ _) (by omega)
  have hs1 := h1.size
  have hT4 : Turn (fun k => v.ownBlock = some k ∨ w'.heap.size ≤ k) w' w3 := ((Turn.ofBelow h1).mono fun k hk => .inr hk).trans (hT3.mono fun k hk => hk.imp id fun x => Nat.le_trans hs1 x)
  obtain ⟨G', hjs, hg1, hg2⟩ := hj2.aside hI hT hT4 (fun k hk hf hg => hf.elim (fun e => (ho.2.2 k e).2 hg) (fun e => by omega)) (fun k hf => hf.elim (fun e => (ho.2.2 k e).1) (fun e => Nat.le_trans hj2.below.size e))
  have hz := hj2.below.size
  refine ⟨v', w3, hrun, G', hjs, hO.place fun k hk => ?_, by rw [List.length_append]; have := h.m; omega, fun x hx => (List.mem_append.1 hx).elim (h.ok x) (fun e => by rw [List.mem_singleton.1 e]; exact hr)⟩
  have hlt := OwnK.lt hO hk
  rcases hO.2.2 k hk with e | e
  · exact ⟨(ho.2.2 k e).1, fun hg => (ho.2.2 k e).2 (hg1 k hg)⟩
  · exact ⟨by omega, fun hg => (hg2 k hg).elim (fun x => by omega) (fun x => by omega)⟩
theorem KS.sync (hI : JnIs T Bk Jn) {w0 w w' : World} {G : Nat → Prop} {p b v : Value} {A : List Rc} {m : Nat} (hT : T w0) (h : KS T Jn w0 G p b A m v w) (hj : Jn G w' p b (syncJ ⟨enL A, (enL (A.take m)).length, A, m⟩).1) (ht : Turn G w w') : KS T Jn w0 G p b A A.length v w' := by
  refine ⟨?_, OwnK.turn h.own ht fun k hk hg => (h.own.2.2 k hk).2 hg, Nat.le_refl _, h.ok⟩
  have := h.js.op hI hT hj ht
  rw [List.take_length]
  exact this
set_option maxHeartbeats 8000000 in
set_option maxRecDepth 100000 in
theorem keeps_walk (hI : JnIs T Bk Jn) {L : List Rc} {v : Value} {w : World} (ad1 : Option Addr) (n1 c1 : Nat) (S1 : Nat → Bool) (q : Int) (hT : T w) (hR : RcV w v L) (hB1 : Bools w ad1 n1 S1) (hl : L.length ≤ 9223372036854775807) (hl1 : n1 ≤ 9223372036854775807) :
    Calls Tryd.prog 4 #[v, .slice ad1 n1 c1, .int .i64 q] w fun e w' => e = .returned (.bool true) ∧ Below w.heap.size w w' := by
  obtain ⟨ad, cap, rfl, hC⟩ := hR
  have HI := Lib.hid hI
  have HT := Lib.hid hT
  have HC := Lib.hid hC
  have HBO := Lib.hid hB1
  obtain ⟨n, hn⟩ : ∃ n, n = L.length := ⟨_, rfl⟩
  have HN := Lib.hid hn
  rw [← hn] at hl ⊢
  have n0 : (0 : Int) ≤ (n : Int) := Int.natCast_nonneg _
  have hop : openJ [] = ⟨enL [], (enL (List.take 0 [])).length, [], 0⟩ := rfl
  clear hI hT hC hB1 hn
  go_enter Tryd.func4, Tryd.ntmps4
  go_wp2_with (first
    | (go_at_call 7; refine (HI.out.bnew _ HT.out).mono ?_; rintro e w1 ⟨b, rfl, hk1, hb1⟩)
    | (go_at_call 9; refine (HI.out.open_ (w.heap.size ≤ ·) b [] _ (HI.out.next HT.out hb1) (fun k hk => Nat.le_trans hb1.size hk) hk1 (by decide)).mono ?_; rintro e w2 ⟨p, v8, G0, rfl, hj2, hn2, hg2, hO2, ht2⟩; rw [hop] at hj2; have hB2 : Below w.heap.size w w2 := hb1.trans (ht2.below fun _ h => h); have K2 := Lib.hid (show KS T Jn w G0 p b [] 0 (.slice none 0 0) w2 from ⟨⟨HI.out.next HT.out hB2, hn2, hj2, fun k hk => hg2 k hk, hB2⟩, OwnK.nil _ _ _ _, Nat.le_refl _, fun r hr => by cases hr⟩); clear hO2 hj2 hn2 hg2 ht2 hB2))
  clear hk1 hb1
  go_loopg [9, 10, 11] 41 (fun gk s9 s10 s11 wr => ∃ (i m : Nat) (A : List Rc) (G : Nat → Prop), s11 = .int .i64 i ∧ i ≤ n ∧ i ≤ 40 ∧ 41 - i ≤ gk ∧ s10 = .int .i64 m ∧ A.length ≤ i ∧ Hid (KS T Jn w G p b A m s9 wr))
  case atStart => exact ⟨0, 0, [], G0, rfl, Nat.zero_le _, Nat.zero_le _, by omega, rfl, Nat.le_refl _, K2⟩
  case round =>
    obtain ⟨i, m, A, G, rfl, hi, hi40, hgk, rfl, hAl, HK⟩ := hrel
    clear K2
    have i0 : (0 : Int) ≤ (i : Int) := Int.natCast_nonneg _
    by_cases hlt : i < n ∧ i < 40
    · obtain ⟨hin, hi2⟩ := hlt
      obtain ⟨bb, off, rfl, hbl, a0, a1⟩ := HC.out i (by have := HN.out; omega)
      have i1 : (i : Int) < (n : Int) := by omega
      have i2 : (i : Int) < 40 := by omega
      have hbk := HK.out.js.below
      replace a0 := (hbk.cell (p := ⟨bb, off + i * 2, none⟩) hbl).trans a0
      replace a1 := (hbk.cell (p := ⟨bb, off + i * 2 + 1, none⟩) hbl).trans a1
      obtain ⟨r, hr⟩ : ∃ r, r = L.getD i zrc := ⟨_, rfl⟩
      rw [← hr] at a0 a1
      obtain ⟨rk, rb⟩ := r
      simp only at a0 a1
      have htz := oct.tx_size rb
      obtain ⟨t, ht⟩ : ∃ t, t = oct.tx rb := ⟨_, rfl⟩
      rw [← ht] at a1 htz
      have hbw : bb < wr.heap.size := Nat.lt_of_lt_of_le hbl hbk.size
      have HTT := Lib.hid ht
      clear hr hbk ht
      have hTW := Lib.hid HK.out.js.t
      have hel : (enL A).length ≤ 100000 := by have := enL_le309 A HK.out.ok; omega
      by_cases hb3 : rb.length < 300
      case neg =>
        have hb3z : ¬ (t.size : Int) < 300 := by omega
        clear htz
        go_upto_region 9 with fail
        by_cases hi1b : (i : Int) < (n1 : Int)
        · obtain ⟨b1, o1, rfl, hbl1, hbc⟩ := HBO.out i (by omega)
          replace hbc := (HK.out.js.below.cell (p := ⟨b1, o1 + i, none⟩) hbl1).trans hbc
          by_cases hS : S1 i = true
          · rw [hS] at hbc
            obtain ⟨a9, q9, h9⟩ := OwnK.form HK.out.own
            rw [List.length_map] at h9
            subst h9
            go_wp2_with (go_at_call 14; (with_reducible refine (HI.out.sync _ p b _ _ HK.out.js.t HK.out.js.n HK.out.js.j).mono ?_); rintro e wS ⟨rfl, hjS, htS⟩; have KF := Lib.hid (HK.out.sync HI.out HT.out hjS htS); clear hjS htS)
            go_roundg (40 - i)
            case measure => omega
            case rel => exact ⟨i + 1, _, A, G, by go_num, hin, hi2, by omega, rfl, by omega, KF⟩
          · have hS' : S1 i = false := by simpa using hS
            rw [hS'] at hbc
            go_wp2_with fail
            go_roundg (40 - i)
            case measure => omega
            case rel => exact ⟨i + 1, m, A, G, by go_num, hin, hi2, by omega, rfl, by omega, HK⟩
        · go_wp2_with fail
          go_roundg (40 - i)
          case measure => omega
          case rel => exact ⟨i + 1, m, A, G, by go_num, hin, hi2, by omega, rfl, by omega, HK⟩
      have hb3z : (t.size : Int) < 300 := by omega
      have HAP := Lib.hid (HI.out.append G p b _ ⟨rk, rb⟩ wr HK.out.js.t HK.out.js.n HK.out.js.j hel (by show rb.length ≤ 300; omega))
      simp only [recv] at HAP
      rw [← HTT.out] at HAP
      by_cases hc : checkR ⟨rk, rb⟩ = 0
      case neg =>
        have hd : ¬ checkR ⟨rk, rb⟩ = 0 := hc
        obtain ⟨e, he⟩ : ∃ e, e = checkR ⟨rk, rb⟩ := ⟨_, rfl⟩
        have hap : appJ ⟨enL A, (enL (A.take m)).length, A, m⟩ ⟨rk, rb⟩ = (⟨enL A, (enL (A.take m)).length, A, m⟩, e) := by unfold appJ; rw [if_pos hc, he]
        rw [hap] at HAP
        rw [← he] at hd
        simp only at HAP
        have KSE := Lib.hid fun wA (hj : Jn G wA p b ⟨enL A, (enL (A.take m)).length, A, m⟩) (ht : Turn G wr wA) => (show KS T Jn w G p b A m u9 wA from ⟨HK.out.js.op HI.out HT.out hj ht, OwnK.turn HK.out.own ht fun k hk hg => (HK.out.own.2.2 k hk).2 hg, HK.out.m, HK.out.ok⟩)
        clear he hap hc htz
        go_upto_region 9 with (go_at_call 12; (with_reducible refine HAP.out.mono ?_); rintro e2 wA ⟨rfl, hjA, htA⟩; have KA := Lib.hid (KSE.out wA hjA htA); clear hjA htA)
        by_cases hi1b : (i : Int) < (n1 : Int)
        · obtain ⟨b1, o1, rfl, hbl1, hbc⟩ := HBO.out i (by omega)
          replace hbc := (KA.out.js.below.cell (p := ⟨b1, o1 + i, none⟩) hbl1).trans hbc
          by_cases hS : S1 i = true
          · rw [hS] at hbc
            obtain ⟨a9, q9, h9⟩ := OwnK.form KA.out.own
            rw [List.length_map] at h9
            subst h9
            go_wp2_with (go_at_call 14; (with_reducible refine (HI.out.sync _ p b _ _ KA.out.js.t KA.out.js.n KA.out.js.j).mono ?_); rintro e wS ⟨rfl, hjS, htS⟩; have KF := Lib.hid (KA.out.sync HI.out HT.out hjS htS); clear hjS htS)
            go_roundg (40 - i)
            case measure => omega
            case rel => exact ⟨i + 1, _, A, G, by go_num, hin, hi2, by omega, rfl, by omega, KF⟩
          · have hS' : S1 i = false := by simpa using hS
            rw [hS'] at hbc
            go_wp2_with fail
            go_roundg (40 - i)
            case measure => omega
            case rel => exact ⟨i + 1, m, A, G, by go_num, hin, hi2, by omega, rfl, by omega, KA⟩
        · go_wp2_with fail
          go_roundg (40 - i)
          case measure => omega
          case rel => exact ⟨i + 1, m, A, G, by go_num, hin, hi2, by omega, rfl, by omega, KA⟩
      · have hap0 : (appJ ⟨enL A, (enL (A.take m)).length, A, m⟩ ⟨rk, rb⟩).2 = 0 := by unfold appJ; rw [if_neg (by simpa using hc)]
        rw [hap0] at HAP
        have KM := Lib.hid fun wA (hj : Jn G wA p b (appJ ⟨enL A, (enL (A.take m)).length, A, m⟩ ⟨rk, rb⟩).1) (ht : Turn G wr wA) => HK.out.more HI.out HT.out ⟨rk, rb⟩ ⟨hc, by show rb.length ≤ 300; omega⟩ (by omega) hj ht
        simp only at KM
        rw [← HTT.out] at KM
        have hbG : ∀ wA, Turn G wr wA → wA.cell? ⟨bb, off + i * 2, none⟩ = some (.int .i64 rk) ∧ wA.cell? ⟨bb, off + i * 2 + 1, none⟩ = some (.string t) := fun wA ht => by
          have hnb : ¬ G bb := fun hg => by have := HK.out.js.g bb hg; omega
          exact ⟨(ht.cell (b := bb) (i := off + i * 2) hnb).trans a0, (ht.cell (b := bb) (i := off + i * 2 + 1) hnb).trans a1⟩
        have HBG := Lib.hid hbG
        clear hap0 hc htz hbG
        go_upto_region 8 with (go_at_call 12; (with_reducible refine HAP.out.mono ?_); rintro e2 wA ⟨rfl, hjA, htA⟩; obtain ⟨a0', a1'⟩ := HBG.out wA htA; obtain ⟨v9, w9, hrun, G9, hK9⟩ := KM.out wA hjA htA; have K9 := Lib.hid hK9; clear hjA htA hK9)
        go_upto_region 9 with ((with_reducible refine step_append (s := .tmp 44) (x := .tmp 49) (t := 29) (vs := ?as1) (vx := ?ax1) (v' := ?av1) (w' := ?aw1) ?ag1 ?ao1 ?ap1 ?aq1 ?ar1 ?ah1); (case ag1 => rfl); (case ao1 => rfl); (case ap1 => rfl); (case aq1 => rfl); (case ar1 => exact hrun))
        clear hrun
        obtain ⟨A9, hA9⟩ : ∃ x, x = A ++ [(⟨rk, rb⟩ : Rc)] := ⟨_, rfl⟩
        rw [← hA9] at K9
        have hA9l : A9.length ≤ i + 1 := by rw [hA9, List.length_append, List.length_singleton]; omega
        clear hA9
        by_cases hi1b : (i : Int) < (n1 : Int)
        · obtain ⟨b1, o1, rfl, hbl1, hbc⟩ := HBO.out i (by omega)
          replace hbc := (K9.out.js.below.cell (p := ⟨b1, o1 + i, none⟩) hbl1).trans hbc
          by_cases hS : S1 i = true
          · rw [hS] at hbc
            obtain ⟨a9, q9, h9⟩ := OwnK.form K9.out.own
            rw [List.length_map] at h9
            subst h9
            go_wp2_with (go_at_call 14; (with_reducible refine (HI.out.sync _ p b _ _ K9.out.js.t K9.out.js.n K9.out.js.j).mono ?_); rintro e wS ⟨rfl, hjS, htS⟩; have KF := Lib.hid (K9.out.sync HI.out HT.out hjS htS); clear hjS htS)
            go_roundg (40 - i)
            case measure => omega
            case rel => exact ⟨i + 1, _, A9, G9, by go_num, hin, hi2, by omega, rfl, hA9l, KF⟩
          · have hS' : S1 i = false := by simpa using hS
            rw [hS'] at hbc
            go_wp2_with fail
            go_roundg (40 - i)
            case measure => omega
            case rel => exact ⟨i + 1, m, A9, G9, by go_num, hin, hi2, by omega, rfl, hA9l, K9⟩
        · go_wp2_with fail
          go_roundg (40 - i)
          case measure => omega
          case rel => exact ⟨i + 1, m, A9, G9, by go_num, hin, hi2, by omega, rfl, hA9l, K9⟩
    · by_cases hin : (i : Int) < (n : Int)
      · have hi6 : ¬ (i : Int) < 40 := by omega
        obtain ⟨W, hcr, hmW, hWA⟩ := keeps1 A (fun r hr => (HK.out.ok r hr).1) m HK.out.m q
        have HSF := Lib.hid (HI.out.safe G p b _ wr HK.out.js.t HK.out.js.j)
        have HCR := Lib.hid fun u (h : Js T Jn w G p b ⟨enL A, (enL (A.take m)).length, A, m⟩ u) => HI.out.crash G p b _ q u h.t h.n h.j (by have := enL_le309 A HK.out.ok; show (enL A).length ≤ 100000; omega)
        rw [hcr] at HCR
        obtain ⟨B, hB⟩ : ∃ B, B = A.take W := ⟨_, rfl⟩
        have hBl : B.length = W := by rw [hB, List.length_take]; omega
        have hBok : ∀ r ∈ B, checkR r = 0 ∧ r.body.length ≤ 300 := fun r hr => HK.out.ok r (by rw [hB] at hr; exact List.mem_of_mem_take hr)
        rw [← hB] at HCR
        simp only at HCR
        have HC2 := Lib.hid fun (G1 : Nat → Prop) u (h : Js T Jn w G1 p b ⟨enL B, (enL B).length, B, B.length⟩ u) => HI.out.crash G1 p b _ q u h.t h.n h.j (by have := enL_le309 B hBok; show (enL B).length ≤ 100000; omega)
        rw [keeps2 B (fun r hr => (hBok r hr).1) q, hBl] at HC2
        simp only at HC2
        obtain ⟨ad9, cap9, h9⟩ := OwnK.form HK.out.own
        rw [List.length_map] at h9
        subst h9
        have hsl := fun u => (slice_rc HK.out.own W hWA u).1
        have HOB := Lib.hid (slice_rc HK.out.own W hWA wr).2
        rw [← hB] at HOB
        have HAl : A.length ≤ 40 := by omega
        have HBL := Lib.hid hBl
        have hm0 : (m : Int) ≤ (W : Int) := by omega
        have hw0 : (W : Int) ≤ (A.length : Int) := by omega
        clear hcr hB hBl hBok
        go_wp2_with (first
          | (go_at_call 19; (with_reducible refine HSF.out.mono ?_); rintro e w3 ⟨rfl, hb3⟩; have J3 := Lib.hid (HK.out.js.next HI.out hb3); have O3 := Lib.hid (ornext HOB.out hb3); clear hb3 HSF)
          | (go_at_call 16; (with_reducible refine (HCR.out _ J3.out).mono ?_); rintro e w4 ⟨v4, G4, rfl, hj4, hn4, hg4, hO4, ht4⟩; obtain ⟨ad4, cap4, hv4⟩ := OwnK.form hO4; rw [List.length_map, HBL.out] at hv4; subst hv4; have J4 := Lib.hid (J3.out.op' HI.out HT.out hj4 hn4 hg4 ht4); have O4 := Lib.hid hO4; have O4b := Lib.hid (orturn O3.out ht4 fun k hk hg => (O3.out.2.2 k hk).2 hg); clear hj4 hn4 hg4 hO4 ht4 HCR)
          | (go_at_call 11; (with_reducible refine (same_eq (OwnR.rcv O4.out) (OwnR.rcv O4b.out) (by have := HBL.out; omega)).mono ?_); rintro e w5 ⟨rfl, hb5⟩; have J5 := Lib.hid (J4.out.next HI.out hb5); have O5 := Lib.hid (ornext O4.out hb5); clear hb5 O4b)
          | (go_at_call 16; (with_reducible refine (HC2.out _ _ J5.out).mono ?_); rintro e w6 ⟨v6, G6, rfl, hj6, hn6, hg6, hO6, ht6⟩; have J6 := Lib.hid (J5.out.op' HI.out HT.out hj6 hn6 hg6 ht6); have O6 := Lib.hid (orturn O5.out ht6 fun k hk hg => (O5.out.2.2 k hk).2 hg); have O6b := Lib.hid hO6; clear hj6 hn6 hg6 hO6 ht6)
          | (go_at_call 11; (with_reducible refine (same_eq (OwnR.rcv O6b.out) (OwnR.rcv O6.out) (by have := HBL.out; omega)).mono ?_); rintro e w7 ⟨rfl, hb7⟩; have J7 := Lib.hid (J6.out.next HI.out hb7); clear hb7)
          | (go_at_call 19; (with_reducible refine (HI.out.safe _ p b _ _ J7.out.t J7.out.j).mono ?_); rintro e w8 ⟨rfl, hb8⟩; have J8 := Lib.hid (J7.out.next HI.out hb8); clear hb8)
          | (go_at_call 6; (with_reducible refine (awake_any HI.out _ J8.out.t).mono ?_); rintro e w9 ⟨rfl, hb9⟩))
        go_ret
        exact ⟨rfl, J8.out.below.trans (hb9.mono J8.out.below.size)⟩
      · skip
        obtain ⟨W, hcr, hmW, hWA⟩ := keeps1 A (fun r hr => (HK.out.ok r hr).1) m HK.out.m q
        have HSF := Lib.hid (HI.out.safe G p b _ wr HK.out.js.t HK.out.js.j)
        have HCR := Lib.hid fun u (h : Js T Jn w G p b ⟨enL A, (enL (A.take m)).length, A, m⟩ u) => HI.out.crash G p b _ q u h.t h.n h.j (by have := enL_le309 A HK.out.ok; show (enL A).length ≤ 100000; omega)
        rw [hcr] at HCR
        obtain ⟨B, hB⟩ : ∃ B, B = A.take W := ⟨_, rfl⟩
        have hBl : B.length = W := by rw [hB, List.length_take]; omega
        have hBok : ∀ r ∈ B, checkR r = 0 ∧ r.body.length ≤ 300 := fun r hr => HK.out.ok r (by rw [hB] at hr; exact List.mem_of_mem_take hr)
        rw [← hB] at HCR
        simp only at HCR
        have HC2 := Lib.hid fun (G1 : Nat → Prop) u (h : Js T Jn w G1 p b ⟨enL B, (enL B).length, B, B.length⟩ u) => HI.out.crash G1 p b _ q u h.t h.n h.j (by have := enL_le309 B hBok; show (enL B).length ≤ 100000; omega)
        rw [keeps2 B (fun r hr => (hBok r hr).1) q, hBl] at HC2
        simp only at HC2
        obtain ⟨ad9, cap9, h9⟩ := OwnK.form HK.out.own
        rw [List.length_map] at h9
        subst h9
        have hsl := fun u => (slice_rc HK.out.own W hWA u).1
        have HOB := Lib.hid (slice_rc HK.out.own W hWA wr).2
        rw [← hB] at HOB
        have HAl : A.length ≤ 40 := by omega
        have HBL := Lib.hid hBl
        have hm0 : (m : Int) ≤ (W : Int) := by omega
        have hw0 : (W : Int) ≤ (A.length : Int) := by omega
        clear hcr hB hBl hBok
        go_wp2_with (first
          | (go_at_call 19; (with_reducible refine HSF.out.mono ?_); rintro e w3 ⟨rfl, hb3⟩; have J3 := Lib.hid (HK.out.js.next HI.out hb3); have O3 := Lib.hid (ornext HOB.out hb3); clear hb3 HSF)
          | (go_at_call 16; (with_reducible refine (HCR.out _ J3.out).mono ?_); rintro e w4 ⟨v4, G4, rfl, hj4, hn4, hg4, hO4, ht4⟩; obtain ⟨ad4, cap4, hv4⟩ := OwnK.form hO4; rw [List.length_map, HBL.out] at hv4; subst hv4; have J4 := Lib.hid (J3.out.op' HI.out HT.out hj4 hn4 hg4 ht4); have O4 := Lib.hid hO4; have O4b := Lib.hid (orturn O3.out ht4 fun k hk hg => (O3.out.2.2 k hk).2 hg); clear hj4 hn4 hg4 hO4 ht4 HCR)
          | (go_at_call 11; (with_reducible refine (same_eq (OwnR.rcv O4.out) (OwnR.rcv O4b.out) (by have := HBL.out; omega)).mono ?_); rintro e w5 ⟨rfl, hb5⟩; have J5 := Lib.hid (J4.out.next HI.out hb5); have O5 := Lib.hid (ornext O4.out hb5); clear hb5 O4b)
          | (go_at_call 16; (with_reducible refine (HC2.out _ _ J5.out).mono ?_); rintro e w6 ⟨v6, G6, rfl, hj6, hn6, hg6, hO6, ht6⟩; have J6 := Lib.hid (J5.out.op' HI.out HT.out hj6 hn6 hg6 ht6); have O6 := Lib.hid (orturn O5.out ht6 fun k hk hg => (O5.out.2.2 k hk).2 hg); have O6b := Lib.hid hO6; clear hj6 hn6 hg6 hO6 ht6)
          | (go_at_call 11; (with_reducible refine (same_eq (OwnR.rcv O6b.out) (OwnR.rcv O6.out) (by have := HBL.out; omega)).mono ?_); rintro e w7 ⟨rfl, hb7⟩; have J7 := Lib.hid (J6.out.next HI.out hb7); clear hb7)
          | (go_at_call 19; (with_reducible refine (HI.out.safe _ p b _ _ J7.out.t J7.out.j).mono ?_); rintro e w8 ⟨rfl, hb8⟩; have J8 := Lib.hid (J7.out.next HI.out hb8); clear hb8)
          | (go_at_call 6; (with_reducible refine (awake_any HI.out _ J8.out.t).mono ?_); rintro e w9 ⟨rfl, hb9⟩))
        go_ret
        exact ⟨rfl, J8.out.below.trans (hb9.mono J8.out.below.size)⟩
end
end Go.Proofs.YtlnpemnolldooaaDoor.jn
