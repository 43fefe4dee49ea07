/-
  petrelref04.Missing, Wrap, Join.
-/
import Derived.Test.YtlbieneklijpeaaDoorFref
namespace Go.Proofs.YtlbieneklijpeaaDoor.fault
open Go.RowKit Go.Proofs.YtlbieneklijpeaaDoor.mem Go.Proofs.YtlbieneklijpeaaDoor.sha Go.Proofs.YtlbieneklijpeaaDoor.ids Go.Proofs.YtlbieneklijpeaaDoor.rows

theorem ints_len (l : List Int) : (ints l).length = l.length := by unfold ints; rw [List.length_map]
theorem texts_len (l : List ByteArray) : (texts l).length = l.length := by unfold texts; rw [List.length_map]
theorem ints_app (l m : List Int) : ints (l ++ m) = ints l ++ ints m := by unfold ints; rw [List.map_append]
theorem texts_app (l m : List ByteArray) : texts (l ++ m) = texts l ++ texts m := by unfold texts; rw [List.map_append]
theorem ints_one (l : List Int) : ∀ u ∈ ints l, u.oneCell' = true := by
  intro u hu
  simp only [ints, List.mem_map] at hu
  obtain ⟨x, _, rfl⟩ := hu
  rfl
theorem texts_one (l : List ByteArray) : ∀ u ∈ texts l, u.oneCell' = true := by
  intro u hu
  simp only [texts, List.mem_map] at hu
  obtain ⟨x, _, rfl⟩ := hu
  rfl
theorem below_row {B : Nat} {w0 w : World} {g : Nat} (hb : Below B w0 w) (hg : B ≤ g) (cs : Array Value) : Below B w0 (w.setRow g cs) := hb.trans ((turn_row w g cs).below fun j hj => by rw [hj]; exact hg)
theorem rdc_row {w : World} {ad : Option Addr} {n cap : Nat} {xs : List Value} (h : RdC w (.slice ad n cap) xs) (g : Nat) (cs : Array Value) (hg : ∀ b off, ad = some ⟨b, off, none⟩ → b < w.heap.size → b ≠ g) : RdC (w.setRow g cs) (.slice ad n cap) xs :=
  h.turn (turn_row w g cs) fun b off e hb => hg b off e hb
theorem rdv_row {w : World} {ad : Option Addr} {n cap : Nat} {L : List Id} (h : RdV w (.slice ad n cap) L) (g : Nat) (cs : Array Value) (hg : ∀ b off, ad = some ⟨b, off, none⟩ → b < w.heap.size → b ≠ g) : RdV (w.setRow g cs) (.slice ad n cap) L :=
  h.turn (turn_row w g cs) fun b off e hb => hg b off e hb

set_option maxHeartbeats 1000000 in
set_option maxRecDepth 100000 in
theorem rmissing_any (L : List Id) (v : Value) (w : World) (h : RdV w v L) (hmax : L.length < 1000000) : Calls Tryd.prog 21 #[v] w fun x w' => ∃ a b c, x = .returned (.agg #[a, b, c]) ∧ FRd w' (w.heap.size ≤ ·) a b c (missF L) ∧ Below w.heap.size w w' := by
  obtain ⟨ad, cap, rfl⟩ := h.form
  have HR := Lib.hid h
  clear h
  by_cases h0 : L = []
  · subst h0
    go_enter Tryd.func21, Tryd.ntmps21
    go_wp2_with fail
    refine bodyPost_ret (results_flt rfl _ _ w.heap.size _ _ _ rfl (Blk.new _ _ _)) rfl ⟨_, _, _, rfl, ?_, (Below.refl _ _).alloc (Nat.le_refl _) _⟩
    exact FRd.nil _ _
  · have hpos : 0 < L.length := List.length_pos_iff.2 h0
    have hz : ((L.length : Int) == 0) = false := beq_eq_false_iff_ne.2 (by omega)
    have HM : Hid (missF L = ⟨[16], [], [L]⟩) := Lib.hid (by unfold missF; rw [if_neg h0])
    obtain ⟨g, hg⟩ : ∃ g, g = w.heap.size := ⟨_, rfl⟩
    obtain ⟨w1, hw1⟩ : ∃ u, u = w.alloc (.cells #[.slice none 0 0, .slice none 0 0, .slice none 0 0] 29) := ⟨_, rfl⟩
    have hR1 : Blk w1 g 29 #[.slice none 0 0, .slice none 0 0, .slice none 0 0] := by rw [hw1, hg]; exact Blk.new w _ _
    have hB1 : Below w.heap.size w w1 := by rw [hw1]; exact (Below.refl _ _).alloc (Nat.le_refl _) _
    have hnw1 : New (g < ·) w1 := fun j hj => Nat.lt_of_lt_of_le hR1.lt hj
    have hBa := (Below.refl w1.heap.size w1).alloc (Nat.le_refl _) (.cells #[] 47)
    obtain ⟨v3, w3, hrun3, hO3, ht3⟩ := run_append_rd (OwnI.laid0 w1 (g < ·) hnw1) ((HR.out.next hB1).next hBa) (by rw [List.length_nil]; omega) (hnw1.alloc _) 37
    have ht3' : Turn (g < ·) w1 w3 := ((Turn.refl _ _).alloc hnw1 _).trans (ht3.mono fun j hj => hj.elim ((OwnI.laid0 w1 (g < ·) hnw1).2.2 j) (hnw1.alloc _ j))
    have hR3 := hR1.turn ht3' (Nat.lt_irrefl g)
    have hB3 : Below w.heap.size w w3 := hB1.trans (ht3'.below fun j hj => by have : g < j := hj; omega)
    rw [List.nil_append] at hO3
    have HO3 := Lib.hid hO3
    have HR3 := Lib.hid hR3
    have HB3 := Lib.hid hB3
    have HW := Lib.hid hw1
    have HG := Lib.hid hg
    clear hO3 hR3 hB3 hw1 hg ht3 ht3' hBa hnw1 hB1 hR1 h0
    go_enter Tryd.func21, Tryd.ntmps21
    go_upto_region 1 with fail
    refine wp_at HW.out.symm ?_
    rw [← HG.out]
    clear HW
    have hst := (HR3.out.alloc (.cells #[.int .i64 16] 3)).alloc (.cells #[v3] 37)
    obtain ⟨ad3, cp3, rfl, -⟩ := HO3.out.form
    go_wp2_with (first
      | ((with_reducible refine step_append (s := .tmp 8) (x := .tmp 9) (t := 37) (vs := ?asma) (vx := ?axma) (v' := ?avma) (w' := ?awma) ?agma ?aoma ?apma ?aqma ?arma ?ahma); (case agma => rfl); (case aoma => rfl); (case apma => rfl); (case aqma => rfl); (case arma => exact hrun3))
      | ((with_reducible refine step_store_flt (x := .tmp 2) (y := .tmp 14) (g := ?qrmb) (a1 := ?qamb) (b1 := ?qbmb) (c1 := ?qcmb) (o1 := ?qdmb) (o2 := ?qemb) (o3 := ?qfmb) ?qgmb ?qomb ?qxmb ?qymb ?qzmb ?qwmb ?qhmb); (case qgmb => rfl); (case qomb => rfl); (case qxmb => rfl); (case qymb => rfl); (case qzmb => exact hst); (case qwmb => (simp [Value.oneCell']))))
    have hst2 := setRow_heap _ g _ #[.slice (some ⟨w3.heap.size, 0, none⟩) 1 1, .slice none 0 0, .slice (some ⟨w3.heap.size + 1, 0, none⟩) 1 1] _ _ hst
    refine bodyPost_ret (results_flt rfl _ _ g _ _ _ rfl hst2) rfl ⟨_, _, _, rfl, ?_, ?_⟩
    · rw [HM.out]
      have h16 := (OwnC.laid1 w3 (fun _ => True) 3 (.int .i64 16) (fun _ _ => trivial)).rdc (by simp)
      have hrp := (OwnC.laid1 (w3.alloc (.cells #[.int .i64 16] 3)) (fun _ => True) 37 (.slice ad3 L.length cp3) (fun _ _ => trivial)).rdc (by simp)
      have hs : (w3.alloc (.cells #[.int .i64 16] 3)).heap.size = w3.heap.size + 1 := by simp
      rw [hs] at hrp
      have hgl := HR3.out.lt
      have hids := (HO3.out.rdv (by omega))
      have hwg := HG.out
      refine ⟨rdc_row (h16.1.next ((Below.refl _ _).alloc (Nat.le_refl _) _)) g _ (fun b off e _ => by cases e; omega), RdC.nil _, ⟨[.slice ad3 L.length cp3], rdc_row hrp.1 g _ (fun b off e _ => by cases e; omega), rfl, fun i hi => ?_⟩, Foot.one (by omega), Foot.nil _, Foot.one (by omega)⟩
      obtain rfl : i = 0 := by simpa using hi
      refine ⟨?_, fun b off n c e _ => by have hlt : g < b := hids.2 b off _ _ e; omega⟩
      refine rdv_row ((hids.1.next ((Below.refl _ _).alloc (Nat.le_refl _) _)).next ((Below.refl _ _).alloc (Nat.le_refl _) _)) g _ (fun b off e _ => ?_)
      have hlt : g < b := hids.2 b off _ _ (by rw [e])
      omega
    · have hgw := HG.out
      exact below_row ((HB3.out.alloc HB3.out.size _).alloc (by have := HB3.out.size; simp; omega) _) (by omega) _

set_option maxHeartbeats 1000000 in
set_option maxRecDepth 100000 in
theorem rwrap_any {F : Nat → Prop} (op : ByteArray) (f : Flt) (a b c : Value) (w : World) (h : FRd w F a b c f) (hmax : f.ops.length < 1000000) : Calls Tryd.prog 22 #[.string op, .agg #[a, b, c]] w fun x w' => ∃ a' b' c', x = .returned (.agg #[a', b', c']) ∧ FRd w' (fun k => F k ∨ w.heap.size ≤ k) a' b' c' (wrapF op f) ∧ Below w.heap.size w w' := by
  obtain ⟨ada, cpa, rfl⟩ := h.nums.form
  obtain ⟨adb, cpb, rfl⟩ := h.ops.form
  obtain ⟨rv, h1, h2, h3⟩ := id h.reps
  obtain ⟨adc, cpc, rfl⟩ := h1.form
  have HR := Lib.hid h
  by_cases h0 : f.nums = []
  · have hw : wrapF op f = f := by unfold wrapF; rw [if_pos h0]
    have hz : (ints f.nums).length = 0 := by rw [h0]; rfl
    have HW := Lib.hid hw
    have HZ := Lib.hid hz
    obtain ⟨n1, hn1⟩ : ∃ n, n = (ints f.nums).length := ⟨_, rfl⟩
    obtain ⟨n2, hn2⟩ : ∃ n, n = (texts f.ops).length := ⟨_, rfl⟩
    obtain ⟨n3, hn3⟩ : ∃ n, n = rv.length := ⟨_, rfl⟩
    rw [← hn1, ← hn2, ← hn3] at HR ⊢
    have hn0 : n1 = 0 := by rw [hn1]; exact hz
    subst hn0
    clear h0 hw hz hn1 hn2 hn3 h h1 h2 h3 HZ
    go_enter Tryd.func22, Tryd.ntmps22
    go_wp2_with fail
    have hb := ((Below.refl w.heap.size w).alloc (Nat.le_refl _) (.cells #[.slice ada 0 cpa, .slice adb n2 cpb, .slice adc n3 cpc] 29)).alloc (by simp) (.cells #[.slice ada 0 cpa, .slice adb n2 cpb, .slice adc n3 cpc] 29)
    refine bodyPost_ret (results_flt rfl _ _ (w.heap.size + 1) _ _ _ rfl (Blk.at_ (by simp) _ _)) rfl ⟨_, _, _, rfl, ?_, hb⟩
    rw [HW.out]
    exact (HR.out.next hb).mono fun k h => .inl h
  · have hpos : 0 < f.nums.length := List.length_pos_iff.2 h0
    have HM : Hid (wrapF op f = ⟨f.nums, op :: f.ops, f.reps⟩) := Lib.hid (by unfold wrapF; rw [if_neg h0])
    obtain ⟨n1, hn1⟩ : ∃ n, n = (ints f.nums).length := ⟨_, rfl⟩
    have hz : ((n1 : Int) == 0) = false := beq_eq_false_iff_ne.2 (by rw [hn1, ints_len]; omega)
    obtain ⟨S, hS⟩ : ∃ g, g = w.heap.size := ⟨_, rfl⟩
    obtain ⟨w1, hw1⟩ : ∃ u, u = (w.alloc (.cells #[.slice ada n1 cpa, .slice adb (texts f.ops).length cpb, .slice adc rv.length cpc] 29)).alloc (.cells #[.slice none 0 0, .slice none 0 0, .slice none 0 0] 29) := ⟨_, rfl⟩
    have hS1 : Blk w1 S 29 #[.slice ada n1 cpa, .slice adb (texts f.ops).length cpb, .slice adc rv.length cpc] := by rw [hw1, hS]; exact (Blk.new w _ _).alloc _
    have hR1 : Blk w1 (S + 1) 29 #[.slice none 0 0, .slice none 0 0, .slice none 0 0] := by rw [hw1, hS]; exact Blk.at_ (by simp) _ _
    have hB1 : Below w.heap.size w w1 := by rw [hw1]; exact ((Below.refl _ _).alloc (Nat.le_refl _) _).alloc (by simp) _
    have hnw1 : New (S + 1 < ·) w1 := fun j hj => Nat.lt_of_lt_of_le hR1.lt hj
    have hBa := (Below.refl w1.heap.size w1).alloc (Nat.le_refl _) (.cells #[.string op] 9)
    have hO1 := OwnC.laid1 w1 (S + 1 < ·) 9 (.string op) hnw1
    obtain ⟨v3, w3, hrun3, hO3, ht3⟩ := run_append_c eStr hO1 ((h.ops.next hB1).next hBa) (texts_one _) (by rw [List.length_singleton, texts_len]; omega) (by rw [List.length_singleton, texts_len]; omega) (hnw1.alloc _) 26
    have ht3' : Turn (S + 1 < ·) w1 w3 := ((Turn.refl _ _).alloc hnw1 _).trans (app_turn hO1.2 (hnw1.alloc _) ht3)
    have hS3 := hS1.turn ht3' (show ¬ (S + 1 < S) by omega)
    have hR3 := hR1.turn ht3' (Nat.lt_irrefl _)
    have hB3 : Below w.heap.size w w3 := hB1.trans (ht3'.below fun j hj => by have : S + 1 < j := hj; omega)
    have k0 : w1.cell? ⟨S, 0, none⟩ = some (.slice ada n1 cpa) := hS1.cell 0
    have k1 : w1.cell? ⟨S, 1, none⟩ = some (.slice adb (texts f.ops).length cpb) := hS1.cell 1
    have m0 : w3.cell? ⟨S, 0, none⟩ = some (.slice ada n1 cpa) := hS3.cell 0
    have m2 : w3.cell? ⟨S, 2, none⟩ = some (.slice adc rv.length cpc) := hS3.cell 2
    have hsl : S < w1.heap.size := hS1.lt
    obtain ⟨ad3, cp3, rfl⟩ := (hO3.rdc (by simp only [List.length_append, List.length_singleton, texts_len]; omega)).1.form
    have HO3 := Lib.hid hO3
    have HR3 := Lib.hid hR3
    have HB3 := Lib.hid hB3
    rw [hn1] at hw1
    have HW := Lib.hid hw1
    have HS := Lib.hid hS
    have HN1 := Lib.hid hn1
    clear hO3 hB3 hw1 hS ht3 ht3' hBa hnw1 hB1 hR1 h0 hS1 hS3 h1 h2 h3 hO1
    go_enter Tryd.func22, Tryd.ntmps22
    rw [← hn1]
    go_upto_region 1 with fail
    refine wp_at HW.out.symm ?_
    rw [← HS.out]
    clear HW hn1
    go_wp2_with (first
      | ((with_reducible refine step_append (s := .tmp 12) (x := .tmp 14) (t := 26) (vs := ?asmc) (vx := ?axmc) (v' := ?avmc) (w' := ?awmc) ?agmc ?aomc ?apmc ?aqmc ?armc ?ahmc); (case agmc => rfl); (case aomc => rfl); (case apmc => rfl); (case aqmc => rfl); (case armc => exact hrun3))
      | ((with_reducible refine step_store_flt (x := .tmp 4) (y := .tmp 21) (g := ?qrmd) (a1 := ?qamd) (b1 := ?qbmd) (c1 := ?qcmd) (o1 := ?qdmd) (o2 := ?qemd) (o3 := ?qfmd) ?qgmd ?qomd ?qxmd ?qymd ?qzmd ?qwmd ?qhmd); (case qgmd => rfl); (case qomd => rfl); (case qxmd => rfl); (case qymd => rfl); (case qzmd => exact hR3); (case qwmd => (simp [Value.oneCell']))))
    have hst2 := setRow_heap _ (S + 1) _ #[.slice ada n1 cpa, .slice ad3 ((texts f.ops).length + 1) cp3, .slice adc rv.length cpc] _ _ hR3
    refine bodyPost_ret (results_flt rfl _ _ (S + 1) _ _ _ rfl hst2) rfl ⟨_, _, _, rfl, ?_, ?_⟩
    · have hSw := HS.out
      have hB6 := below_row HB3.out (g := S + 1) (by omega) #[.slice ada n1 cpa, .slice ad3 ((texts f.ops).length + 1) cp3, .slice adc rv.length cpc]
      have hin := HR.out.next hB6
      rw [← HN1.out] at hin
      have hown := HO3.out.rdc (by simp only [List.length_append, List.length_singleton, texts_len]; omega)
      have hl3 : ([Value.string op] ++ texts f.ops).length = (texts f.ops).length + 1 := by simp
      rw [HM.out]
      rw [hl3] at hown
      have hft := hin.foot
      obtain ⟨rv', q1, q2, q3⟩ := hin.reps
      refine ⟨hin.nums, rdc_row hown.1 (S + 1) _ (fun b off e _ => ?_), ⟨rv', q1, q2, fun i hi => ⟨(q3 i hi).1, (q3 i hi).2.mono fun k h => .inl h⟩⟩, hft.1.mono fun k h => .inl h, fun b off n c e _ => .inr ?_, hft.2.2.mono fun k h => .inl h⟩
      · have : S + 1 < b := hown.2 b off _ _ (by rw [e])
        omega
      · have : S + 1 < b := hown.2 b off _ _ e
        omega
    · have hSw := HS.out
      exact below_row HB3.out (by omega) _

/-- what Join keeps: both boxes, the result's block -/
structure JSt (w0 : World) (S : Nat) (p q : Array Value) (w : World) : Prop where
  at_ : S = w0.heap.size
  b1 : Blk w S 29 p
  b2 : Blk w (S + 1) 29 q
  res : Blk w (S + 2) 29 #[.slice none 0 0, .slice none 0 0, .slice none 0 0]
  below : Below w0.heap.size w0 w
theorem JSt.turn {w0 w w' : World} {S : Nat} {p q : Array Value} (h : JSt w0 S p q w) (ht : Turn (S + 2 < ·) w w') : JSt w0 S p q w' :=
  ⟨h.at_, h.b1.turn ht (by show ¬ (S + 2 < S); omega), h.b2.turn ht (by show ¬ (S + 2 < S + 1); omega), h.res.turn ht (Nat.lt_irrefl _), h.below.trans (ht.below fun j hj => by have := h.at_; have : S + 2 < j := hj; omega)⟩
theorem JSt.new {w0 w : World} {S : Nat} {p q : Array Value} (h : JSt w0 S p q w) : New (S + 2 < ·) w := fun _ hj => Nat.lt_of_lt_of_le h.res.lt hj
theorem JSt.alloc {w0 w : World} {S : Nat} {p q : Array Value} (h : JSt w0 S p q w) (o : Obj) : JSt w0 S p q (w.alloc o) := h.turn ((Turn.refl _ _).alloc h.new o)
/-- one of the three lists: 'append(append(T{}, x..), y..)' -/
theorem JSt.two {w0 w : World} {S : Nat} {p q : Array Value} (h : JSt w0 S p q w) {t e : TypeId} {k : Nat} (hE : Elem t e k) {vx vy : Value} {xs ys : List Value} (hx : RdC w0 vx xs) (hy : RdC w0 vy ys) (o1 : ∀ u ∈ xs, u.oneCell' = true) (o2 : ∀ u ∈ ys, u.oneCell' = true)
    (hl : (xs.length + ys.length) * (k + 1) ≤ 140737488355328) (hk : 0 < k) (ty ty2 : TypeId) :
    ∃ v1 w1 v2 w2, (Builtin.append_ #[t, t] ty #[.slice (some ⟨w.heap.size, 0, none⟩) 0 0, vx]).run Tryd.prog (w.alloc (.cells #[] e)) = .ok v1 w1 ∧ JSt w0 S p q w1 ∧ (Builtin.append_ #[t, t] ty2 #[v1, vy]).run Tryd.prog w1 = .ok v2 w2 ∧ JSt w0 S p q w2 ∧ OwnC w2 (S + 2 < ·) e v2 (xs ++ ys) ∧ Below w.heap.size w w2 := by
  have hm : xs.length * k ≤ (xs.length + ys.length) * (k + 1) := Nat.mul_le_mul (by omega) (by omega)
  have hm2 : (xs.length + ys.length) * k ≤ (xs.length + ys.length) * (k + 1) := Nat.mul_le_mul (Nat.le_refl _) (by omega)
  have hm3 : (xs.length + ys.length) * 1 ≤ (xs.length + ys.length) * (k + 1) := Nat.mul_le_mul (Nat.le_refl _) (by omega)
  have hA := h.alloc (.cells #[] e)
  have hF : ∀ j, w.heap.size ≤ j → S + 2 < j := h.new
  have hn0 : New (w.heap.size ≤ ·) w := fun _ h => h
  have hO := OwnC.laid0 w (w.heap.size ≤ ·) e hn0
  have hB0 := (Below.refl w.heap.size w).alloc (Nat.le_refl _) (.cells #[] e)
  obtain ⟨v1, w1, hr1, hO1, ht1⟩ := run_append_c hE hO (hx.next hA.below) o1 (by rw [List.length_nil]; omega) (by rw [List.length_nil, Nat.zero_add]; omega) (hn0.alloc _) ty
  have t1 := app_turn hO.2 (hn0.alloc _) ht1
  have h1 := hA.turn (t1.mono hF)
  have hB1 := hB0.trans (t1.below fun _ h => h)
  have hn1 : New (w.heap.size ≤ ·) w1 := fun _ h => Nat.le_trans hB1.size h
  rw [List.nil_append] at hO1
  obtain ⟨v2, w2, hr2, hO2, ht2⟩ := run_append_c hE hO1 (hy.next h1.below) o2 (by omega) (by omega) hn1 ty2
  have t2 := app_turn hO1.2 hn1 ht2
  exact ⟨v1, w1, v2, w2, hr1, h1, hr2, h1.turn (t2.mono hF), hO2.mono hF, hB1.trans (t2.below fun _ h => h)⟩
theorem reps_one {w : World} {F : Nat → Prop} {rv : List Value} {reps : List (List Id)} (h2 : rv.length = reps.length) (h3 : ∀ i, i < reps.length → RdV w (rv.getD i undef) (reps.getD i []) ∧ Foot F (rv.getD i undef)) : ∀ u ∈ rv, u.oneCell' = true := by
  intro u hu
  obtain ⟨i, hi, rfl⟩ := List.getElem_of_mem hu
  obtain ⟨ad, cp, e⟩ := (h3 i (by omega)).1.form
  rw [List.getD_eq_getElem?_getD, List.getElem?_eq_getElem hi] at e
  have e' : rv[i] = .slice ad (reps.getD i []).length cp := e
  rw [e']
  rfl

set_option maxHeartbeats 2000000 in
set_option maxRecDepth 100000 in
theorem rjoin_any {F : Nat → Prop} (f g : Flt) (a b c a2 b2 c2 : Value) (w : World) (h : FRd w F a b c f) (k : FRd w F a2 b2 c2 g) (hn : f.nums.length + g.nums.length < 1000000) (ho : f.ops.length + g.ops.length < 1000000) (hr : f.reps.length + g.reps.length < 1000000) :
    Calls Tryd.prog 23 #[.agg #[a, b, c], .agg #[a2, b2, c2]] w fun x w' => ∃ a' b' c', x = .returned (.agg #[a', b', c']) ∧ FRd w' (fun k => F k ∨ w.heap.size ≤ k) a' b' c' (joinF f g) ∧ Below w.heap.size w w' := by
  obtain ⟨rv, h1, h2, h3⟩ := id h.reps
  obtain ⟨rv2, k1, k2, k3⟩ := id k.reps
  obtain ⟨S, hS⟩ : ∃ g, g = w.heap.size := ⟨_, rfl⟩
  obtain ⟨w1, hw1⟩ : ∃ u, u = ((w.alloc (.cells #[a, b, c] 29)).alloc (.cells #[a2, b2, c2] 29)).alloc (.cells #[.slice none 0 0, .slice none 0 0, .slice none 0 0] 29) := ⟨_, rfl⟩
  have hJ1 : JSt w S #[a, b, c] #[a2, b2, c2] w1 := by
    rw [hw1]
    exact ⟨hS, by rw [hS]; exact ((Blk.new w _ _).alloc _).alloc _, by rw [hS]; exact (Blk.at_ (by simp) _ _).alloc _, by rw [hS]; exact Blk.at_ (by simp) _ _, (((Below.refl _ _).alloc (Nat.le_refl _) _).alloc (by simp) _).alloc (by simp; omega) _⟩
  obtain ⟨x1, w3, x2, w4, e1, j1, e2, j2, o1, l1⟩ := hJ1.two eInt h.nums k.nums (ints_one _) (ints_one _) (by rw [ints_len, ints_len]; omega) (by decide) 25 25
  obtain ⟨y1, w5, y2, w6, e3, j3, e4, j4, o2, l2⟩ := j2.two eStr h.ops k.ops (texts_one _) (texts_one _) (by rw [texts_len, texts_len]; omega) (by decide) 26 26
  obtain ⟨z1, w7, z2, w8, e5, j5, e6, j6, o3, l3⟩ := j4.two eRep h1 k1 (reps_one h2 h3) (reps_one k2 k3) (by rw [h2, k2]; omega) (by decide) 27 27
  have p0 : w1.cell? ⟨S, 0, none⟩ = some a := hJ1.b1.cell 0
  have p1 : w3.cell? ⟨S + 1, 0, none⟩ = some a2 := j1.b2.cell 0
  have p2 : w4.cell? ⟨S, 1, none⟩ = some b := j2.b1.cell 1
  have p3 : w5.cell? ⟨S + 1, 1, none⟩ = some b2 := j3.b2.cell 1
  have p4 : w6.cell? ⟨S, 2, none⟩ = some c := j4.b1.cell 2
  have p5 : w7.cell? ⟨S + 1, 2, none⟩ = some c2 := j5.b2.cell 2
  have q1 := hJ1.b1.lt
  have q2 := j2.b1.lt
  have q3 := j4.b1.lt
  have hlx : (ints f.nums ++ ints g.nums).length ≤ 140737488355328 := by rw [List.length_append, ints_len, ints_len]; omega
  have hly : (texts f.ops ++ texts g.ops).length ≤ 140737488355328 := by rw [List.length_append, texts_len, texts_len]; omega
  have hlz : (rv ++ rv2).length ≤ 140737488355328 := by rw [List.length_append, h2, k2]; omega
  have hres := j6.res
  obtain ⟨adx, cpx, rfl⟩ := (o1.rdc hlx).1.form
  obtain ⟨ady, cpy, rfl⟩ := (o2.rdc hly).1.form
  obtain ⟨adz, cpz, rfl⟩ := (o3.rdc hlz).1.form
  have HW := Lib.hid hw1
  have HS := Lib.hid hS
  have HH := Lib.hid h
  have HK := Lib.hid k
  have J6 := Lib.hid j6
  have O1 := Lib.hid (o1.rdc hlx)
  have O2 := Lib.hid (o2.rdc hly)
  have O3 := Lib.hid (o3.rdc hlz)
  have L2 := Lib.hid l2
  have L3 := Lib.hid l3
  have R3 := Lib.hid h3
  have K3 := Lib.hid k3
  clear hw1 hS h k j1 j2 j3 j4 j5 j6 o1 o2 o3 hJ1 h1 k1 h3 k3 l1 l2 l3
  go_enter Tryd.func23, Tryd.ntmps23
  go_upto_region 1 with fail
  refine wp_at HW.out.symm ?_
  rw [← HS.out]
  clear HW
  go_wp2_with (first
    | ((with_reducible refine step_append (s := .tmp 8) (x := .tmp 10) (t := 25) (vs := ?asja) (vx := ?axja) (v' := ?avja) (w' := ?awja) ?agja ?aoja ?apja ?aqja ?arja ?ahja); (case agja => rfl); (case aoja => rfl); (case apja => rfl); (case aqja => rfl); (case arja => exact e1))
    | ((with_reducible refine step_append (s := .tmp 12) (x := .tmp 14) (t := 25) (vs := ?asjb) (vx := ?axjb) (v' := ?avjb) (w' := ?awjb) ?agjb ?aojb ?apjb ?aqjb ?arjb ?ahjb); (case agjb => rfl); (case aojb => rfl); (case apjb => rfl); (case aqjb => rfl); (case arjb => exact e2))
    | ((with_reducible refine step_append (s := .tmp 16) (x := .tmp 18) (t := 26) (vs := ?asjc) (vx := ?axjc) (v' := ?avjc) (w' := ?awjc) ?agjc ?aojc ?apjc ?aqjc ?arjc ?ahjc); (case agjc => rfl); (case aojc => rfl); (case apjc => rfl); (case aqjc => rfl); (case arjc => exact e3))
    | ((with_reducible refine step_append (s := .tmp 20) (x := .tmp 22) (t := 26) (vs := ?asjd) (vx := ?axjd) (v' := ?avjd) (w' := ?awjd) ?agjd ?aojd ?apjd ?aqjd ?arjd ?ahjd); (case agjd => rfl); (case aojd => rfl); (case apjd => rfl); (case aqjd => rfl); (case arjd => exact e4))
    | ((with_reducible refine step_append (s := .tmp 24) (x := .tmp 26) (t := 27) (vs := ?asje) (vx := ?axje) (v' := ?avje) (w' := ?awje) ?agje ?aoje ?apje ?aqje ?arje ?ahje); (case agje => rfl); (case aoje => rfl); (case apje => rfl); (case aqje => rfl); (case arje => exact e5))
    | ((with_reducible refine step_append (s := .tmp 28) (x := .tmp 30) (t := 27) (vs := ?asjf) (vx := ?axjf) (v' := ?avjf) (w' := ?awjf) ?agjf ?aojf ?apjf ?aqjf ?arjf ?ahjf); (case agjf => rfl); (case aojf => rfl); (case apjf => rfl); (case aqjf => rfl); (case arjf => exact e6))
    | ((with_reducible refine step_store_flt (x := .tmp 4) (y := .tmp 35) (g := ?qrjg) (a1 := ?qajg) (b1 := ?qbjg) (c1 := ?qcjg) (o1 := ?qdjg) (o2 := ?qejg) (o3 := ?qfjg) ?qgjg ?qojg ?qxjg ?qyjg ?qzjg ?qwjg ?qhjg); (case qgjg => rfl); (case qojg => rfl); (case qxjg => rfl); (case qyjg => rfl); (case qzjg => exact hres); (case qwjg => (simp [Value.oneCell']))))
  have hlenx : (ints f.nums ++ ints g.nums).length = (ints f.nums).length + (ints g.nums).length := List.length_append
  have hleny : (texts f.ops ++ texts g.ops).length = (texts f.ops).length + (texts g.ops).length := List.length_append
  have hlenz : (rv ++ rv2).length = f.reps.length + g.reps.length := by rw [List.length_append, h2, k2]
  have O1' := O1.out
  have O2' := O2.out
  have O3' := O3.out
  rw [hlenx] at O1'
  rw [hleny] at O2'
  rw [hlenz] at O3'
  have hst2 := setRow_heap _ (S + 1 + 1) _ #[.slice adx ((ints f.nums).length + (ints g.nums).length) cpx, .slice ady ((texts f.ops).length + (texts g.ops).length) cpy, .slice adz (f.reps.length + g.reps.length) cpz] _ _ hres
  refine bodyPost_ret (results_flt rfl _ _ (S + 1 + 1) _ _ _ rfl hst2) rfl ⟨_, _, _, rfl, ?_, ?_⟩
  · have hSw := HS.out
    have hB8 := below_row J6.out.below (g := S + 1 + 1) (by omega) #[.slice adx ((ints f.nums).length + (ints g.nums).length) cpx, .slice ady ((texts f.ops).length + (texts g.ops).length) cpy, .slice adz (f.reps.length + g.reps.length) cpz]
    have b1 : ∀ b off, adx = some ⟨b, off, none⟩ → b < w8.heap.size → b ≠ S + 1 + 1 := fun b off e _ => by
      have h : S + 2 < b := O1'.2 b off _ _ (by rw [e])
      omega
    have b2 : ∀ b off, ady = some ⟨b, off, none⟩ → b < w8.heap.size → b ≠ S + 1 + 1 := fun b off e _ => by
      have h : S + 2 < b := O2'.2 b off _ _ (by rw [e])
      omega
    have b3 : ∀ b off, adz = some ⟨b, off, none⟩ → b < w8.heap.size → b ≠ S + 1 + 1 := fun b off e _ => by
      have h : S + 2 < b := O3'.2 b off _ _ (by rw [e])
      omega
    refine ⟨?_, ?_, ⟨rv ++ rv2, rdc_row O3'.1 _ _ b3, by rw [List.length_append, h2, k2]; exact List.length_append.symm, fun i hi => ?_⟩, fun b off n c e _ => .inr ?_, fun b off n c e _ => .inr ?_, fun b off n c e _ => .inr ?_⟩
    rotate_left 3
    · have h : S + 2 < b := O1'.2 b off _ _ e
      omega
    · have h : S + 2 < b := O2'.2 b off _ _ e
      omega
    · have h : S + 2 < b := O3'.2 b off _ _ e
      omega
    · show RdC _ _ (ints (f.nums ++ g.nums))
      rw [ints_app]
      exact rdc_row ((O1'.1.next L2.out).next L3.out) _ _ b1
    · show RdC _ _ (texts (f.ops ++ g.ops))
      rw [texts_app]
      exact rdc_row (O2'.1.next L3.out) _ _ b2
    · have hi' : i < f.reps.length + g.reps.length := by rw [← List.length_append]; exact hi
      show RdV _ ((rv ++ rv2).getD i undef) ((f.reps ++ g.reps).getD i []) ∧ Foot _ ((rv ++ rv2).getD i undef)
      by_cases hlt : i < f.reps.length
      · have e1 : (rv ++ rv2).getD i undef = rv.getD i undef := by rw [List.getD_eq_getElem?_getD, List.getElem?_append_left (by omega), ← List.getD_eq_getElem?_getD]
        have e2 : (f.reps ++ g.reps).getD i [] = f.reps.getD i [] := by rw [List.getD_eq_getElem?_getD, List.getElem?_append_left hlt, ← List.getD_eq_getElem?_getD]
        rw [e1, e2]
        exact ⟨(R3.out i hlt).1.next hB8, (R3.out i hlt).2.mono fun k h => .inl h⟩
      · have e1 : (rv ++ rv2).getD i undef = rv2.getD (i - f.reps.length) undef := by rw [List.getD_eq_getElem?_getD, List.getElem?_append_right (by omega), h2, ← List.getD_eq_getElem?_getD]
        have e2 : (f.reps ++ g.reps).getD i [] = g.reps.getD (i - f.reps.length) [] := by rw [List.getD_eq_getElem?_getD, List.getElem?_append_right (by omega), ← List.getD_eq_getElem?_getD]
        rw [e1, e2]
        exact ⟨(K3.out _ (by omega)).1.next hB8, (K3.out _ (by omega)).2.mono fun k h => .inl h⟩
  · have hSw := HS.out
    exact below_row J6.out.below (by omega) _
end Go.Proofs.YtlbieneklijpeaaDoor.fault
