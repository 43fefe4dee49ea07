/-
  petrelref09.Same, Put.
-/
import Derived.Test.YtbfjljbllfjicaaMsck
import Derived.Test.YtbfjljbllfjicaaStrx
namespace Go.Proofs.Ytbfjljbllfjicaa.msg
open Go.RowKit Go.Proofs.Ytbfjljbllfjicaa.mem Go.Proofs.Ytbfjljbllfjicaa.sha Go.Proofs.Ytbfjljbllfjicaa.ids
open Go.Proofs.Ytbfjljbllfjicaa.opn (b1 b2 b4 num txt idl byte rd rdN rdT rdI rdS rdL St Reads Stays endE zid mkId)

def sameM (a b : Mg) : Bool := decide (a.k = b.k) && (decide (a.body = b.body) && decide (a.ids = b.ids))
theorem sameM_iff (a b : Mg) : sameM a b = true ↔ a = b := by
  obtain ⟨k, i, c⟩ := a
  obtain ⟨k', i', c'⟩ := b
  simp [sameM]
  exact fun _ => And.comm
theorem sameM_refl (a : Mg) : sameM a a = true := (sameM_iff a a).2 rfl
set_option maxHeartbeats 4000000 in
set_option maxRecDepth 100000 in
theorem same_any (x y : Mg) (vx vy : Value) (w : World) (hvx : RdV w vx x.ids) (hvy : RdV w vy y.ids) :
    Calls Try.prog 13 #[mgv x vx, mgv y vy] w fun e w' => e = .returned (.bool (sameM x y)) ∧ Below w.heap.size w w' := by
  obtain ⟨w1, hw1⟩ : ∃ u, u = (w.alloc (.cells #[.int .i64 x.k, vx, .string (oct.tx x.body)] 24)).alloc (.cells #[.int .i64 y.k, vy, .string (oct.tx y.body)] 24) := ⟨_, rfl⟩
  obtain ⟨S, hS⟩ : ∃ S, S = w.heap.size := ⟨_, rfl⟩
  have hX : Blk w1 S 24 #[.int .i64 x.k, vx, .string (oct.tx x.body)] := by rw [hw1, hS]; exact (Blk.new w _ _).alloc _
  have hY : Blk w1 (S + 1) 24 #[.int .i64 y.k, vy, .string (oct.tx y.body)] := by rw [hw1, hS]; exact Blk.at_ (by simp) _ _
  have hB : Below w.heap.size w w1 := by rw [hw1]; exact ((Below.refl _ _).alloc (Nat.le_refl _) _).alloc (by simp) _
  have hx1 := hvx.next hB
  have hy1 := hvy.next hB
  have HB := Lib.hid hB
  have HS := Lib.hid hS
  have HW := Lib.hid hw1
  obtain ⟨adx, capx, rfl⟩ := hx1.form
  obtain ⟨ady, capy, rfl⟩ := hy1.form
  have hsm := rsame_any x.ids y.ids adx ady _ capx _ capy w1 hx1 hy1
  have c0 := (MgBlk.of hX).k
  have d0 := (MgBlk.of hY).k
  have c1 := (MgBlk.of hX).ids
  have d1 := (MgBlk.of hY).ids
  have c2 := (MgBlk.of hX).body
  have d2 := (MgBlk.of hY).body
  obtain ⟨VX, hVX⟩ : ∃ V, V = Value.slice adx x.ids.length capx := ⟨_, rfl⟩
  obtain ⟨VY, hVY⟩ : ∃ V, V = Value.slice ady y.ids.length capy := ⟨_, rfl⟩
  rw [← hVX] at hsm HW c1
  rw [← hVY] at hsm HW d1
  rw [← hVX, ← hVY]
  obtain ⟨tx, htx⟩ : ∃ s, s = oct.tx x.body := ⟨_, rfl⟩
  obtain ⟨ty, hty⟩ : ∃ s, s = oct.tx y.body := ⟨_, rfl⟩
  have HTE : Hid ((tx.toList == ty.toList) = decide (x.body = y.body)) := Lib.hid (by rw [htx, hty]; exact tx_beq _ _)
  rw [← htx] at c2
  rw [← hty] at d2
  have HR : Hid (sameM x y = (decide (x.k = y.k) && (decide (x.body = y.body) && decide (x.ids = y.ids)))) := Lib.hid rfl
  have HPE : Hid ((x.ids == y.ids) = decide (x.ids = y.ids)) := Lib.hid (by rw [Bool.eq_iff_iff, beq_iff_eq, decide_eq_true_iff])
  rw [HPE.out] at hsm
  obtain ⟨bI, hbI⟩ : ∃ b, b = decide (x.ids = y.ids) := ⟨_, rfl⟩
  rw [← hbI] at hsm HR
  have HSM := Lib.hid hsm
  clear hX hY hB hvx hvy hx1 hy1 hS hw1 hsm hVX hVY htx hty HPE hbI
  unfold mgv
  by_cases h0 : x.k = y.k
  · have e0 : (x.k == y.k) = true := beq_iff_eq.2 h0
    have HR : Hid (_ = _) := Lib.hid HR.out
    rw [decide_eq_true h0, Bool.true_and] at HR
    clear h0
    by_cases h1 : x.body = y.body
    · have e1 := HTE.out
      rw [decide_eq_true h1] at e1
      have HR : Hid (_ = _) := Lib.hid HR.out
      rw [decide_eq_true h1, Bool.true_and] at HR
      clear h1
      go_enter Try.func13, Try.ntmps13
      go_upto_region 1 with fail
      refine wp_at HW.out.symm ?_
      rw [← HS.out]
      clear HW
      go_wp2_with (go_at_call 31; (with_reducible refine HSM.out.mono ?_); rintro e w3 ⟨rfl, m, rfl⟩)
      go_ret
      exact ⟨by rw [HR.out]; rfl, below_drewN HB.out m⟩
    · have e1 := HTE.out
      rw [decide_eq_false h1] at e1
      have HR : Hid (_ = _) := Lib.hid HR.out
      rw [decide_eq_false h1, Bool.false_and] at HR
      clear h1
      go_enter Try.func13, Try.ntmps13
      go_upto_region 1 with fail
      refine wp_at HW.out.symm ?_
      rw [← HS.out]
      clear HW
      go_wp2_with (go_at_call 31; (with_reducible refine HSM.out.mono ?_); rintro e w3 ⟨rfl, m, rfl⟩)
      go_ret
      exact ⟨by rw [HR.out]; rfl, HB.out⟩
  · have e0 : (x.k == y.k) = false := beq_eq_false_iff_ne.2 h0
    have HR : Hid (_ = _) := Lib.hid HR.out
    rw [decide_eq_false h0, Bool.false_and] at HR
    clear h0
    go_enter Try.func13, Try.ntmps13
    go_upto_region 1 with fail
    refine wp_at HW.out.symm ?_
    rw [← HS.out]
    clear HW
    go_wp2_with (go_at_call 31; (with_reducible refine HSM.out.mono ?_); rintro e w3 ⟨rfl, m, rfl⟩)
    go_ret
    exact ⟨by rw [HR.out]; rfl, HB.out⟩

theorem text_r (s : List UInt8) (h : s.length < 65536) (w : World) : Calls Try.prog 27 #[.string (oct.tx s)] w fun e w' => e = .returned (.tuple #[.string (oct.tx (txt2 s)), .int .i64 0]) ∧ Below w.heap.size w w' := by
  have := oct.reftext_any (oct.tx s) w
  rw [show oct.refText (oct.tx s) = (oct.tx (txt2 s), 0) by
    unfold oct.refText
    rw [if_neg (by rw [oct.tx_size]; omega)]
    have e : oct.textBytes (oct.tx s) = txt2 s := by
      unfold oct.textBytes txt2
      rw [oct.tx_size, oct.tx_list]
      rfl
    rw [e]] at this
  exact this
set_option maxHeartbeats 4000000 in
set_option maxRecDepth 100000 in
theorem put_any (m : Mg) (v : Value) (w : World) (hv : RdV w v m.ids) (hb : m.body.length ≤ 140737488351232) :
    Calls Try.prog 9 #[mgv m v] w fun e w' => e = .returned (.tuple #[.string (oct.tx (putM m).1), .int .i64 (putM m).2]) ∧ Below w.heap.size w w' := by
  obtain ⟨w1, hw1⟩ : ∃ u, u = w.alloc (.cells #[.int .i64 m.k, v, .string (oct.tx m.body)] 24) := ⟨_, rfl⟩
  obtain ⟨S, hS⟩ : ∃ S, S = w.heap.size := ⟨_, rfl⟩
  have hX : Blk w1 S 24 #[.int .i64 m.k, v, .string (oct.tx m.body)] := by rw [hw1, hS]; exact Blk.new w _ _
  have hB : Below w.heap.size w w1 := by rw [hw1]; exact (Below.refl _ _).alloc (Nat.le_refl _) _
  have hv1 := hv.next hB
  have HX := Lib.hid hX
  have HB := Lib.hid hB
  have HS := Lib.hid hS
  have HW := Lib.hid hw1
  have HV := Lib.hid hv1
  have hck := check_any m v w1 hv1 hb
  have c0 := (MgBlk.of hX).k
  have c1 := (MgBlk.of hX).ids
  have c2 := (MgBlk.of hX).body
  by_cases hc0 : checkM m = 0
  · rw [hc0] at hck
    have HCK := Lib.hid hck
    have HE : Hid (putM m = (enM m, 0)) := Lib.hid (put_ok hc0)
    have htwo := check_two hc0
    have hk : 1 ≤ m.k ∧ m.k ≤ 8 := by rcases htwo with ⟨_, b, c, _⟩ | ⟨_, b, c, _⟩ <;> exact ⟨b, c⟩
    have HN := Lib.hid (opn.num1_r m.k (by omega) (by omega))
    have HKIND := Lib.hid (fun u => kind_any m.k u)
    have z1 : (oct.tx (b1 m.k)).size = 1 := oct.tx_size _
    rcases htwo with ⟨hk1, -, -, hbd, hil⟩ | ⟨hk2, -, -, hid, hbl⟩
    · rw [hk1] at HKIND
      have HAP : Hid (oct.tx (b1 m.k) ++ oct.tx (idl m.ids) = oct.tx (enM m)) := Lib.hid (by rw [opn.tx_app]; unfold enM tailM; rw [if_pos hk1])
      have z2 : (oct.tx (idl m.ids)).size ≤ 600 := by rw [oct.tx_size]; unfold idl; rw [List.length_append, opn.b1_len, flatM hv1.ok]; omega
      have hcI : ∀ u, Below w1.heap.size w1 u → Calls Try.prog 26 #[v] u fun e w' => e = .returned (.string (oct.tx (idl m.ids))) ∧ Below u.heap.size u w' := fun u hu => by
        have hvu := HV.out.next hu
        obtain ⟨ad, cap, hvf⟩ := hvu.form
        rw [hvf]
        exact opn.ids_any m.ids ad _ cap u (hvf ▸ hvu) (by omega)
      have HCI := Lib.hid hcI
      clear hX hB hv1 hS hw1 hv hb hck hc0 hk hbd hil hcI hk1
      unfold mgv
      go_enter Try.func9, Try.ntmps9
      go_upto_region 1 with fail
      refine wp_at HW.out.symm ?_
      rw [← HS.out]
      clear HW
      go_wp2_with (first
        | (go_at_call 11; (refine HCK.out.mono ?_); rintro e w2 ⟨rfl, hb2⟩; have d0 := (MgBlk.of (HX.out.below hb2 HX.out.lt)).k)
        | (go_at_call 24; (with_reducible refine (HN.out _).mono ?_); rintro e w3 ⟨rfl, hb3⟩; have b3 := hb2.trans (hb3.mono hb2.size); have f0 := (MgBlk.of (HX.out.below b3 HX.out.lt)).k; have f1 := (MgBlk.of (HX.out.below b3 HX.out.lt)).ids)
        | (go_at_call 25; (with_reducible refine (HKIND.out _).mono ?_); rintro e w4 ⟨rfl, rfl⟩)
        | (go_at_call 26; (with_reducible refine (HCI.out _ b3).mono ?_); rintro e w5 ⟨rfl, hb5⟩))
      go_ret2
      exact ⟨by rw [HE.out, ← HAP.out]; rfl, HB.out.trans ((b3.trans (hb5.mono b3.size)).mono HB.out.size)⟩
    · rw [hk2] at HKIND
      have HAP : Hid (oct.tx (b1 m.k) ++ oct.tx (txt2 m.body) = oct.tx (enM m)) := Lib.hid (by rw [opn.tx_app]; unfold enM tailM; rw [if_neg (by rw [hk2]; decide)])
      have z2 : (oct.tx (txt2 m.body)).size ≤ 600 := by rw [oct.tx_size]; unfold txt2; rw [List.length_append, opn.b2_len]; omega
      have HTX := Lib.hid (fun u => text_r m.body (by omega) u)
      clear hX hB hv1 hS hw1 hv hb hck hc0 hk hid hbl hk2
      unfold mgv
      go_enter Try.func9, Try.ntmps9
      go_upto_region 1 with fail
      refine wp_at HW.out.symm ?_
      rw [← HS.out]
      clear HW
      go_wp2_with (first
        | (go_at_call 11; (refine HCK.out.mono ?_); rintro e w2 ⟨rfl, hb2⟩; have d0 := (MgBlk.of (HX.out.below hb2 HX.out.lt)).k)
        | (go_at_call 24; (with_reducible refine (HN.out _).mono ?_); rintro e w3 ⟨rfl, hb3⟩; have b3 := hb2.trans (hb3.mono hb2.size); have f0 := (MgBlk.of (HX.out.below b3 HX.out.lt)).k; have f2 := (MgBlk.of (HX.out.below b3 HX.out.lt)).body)
        | (go_at_call 25; (with_reducible refine (HKIND.out _).mono ?_); rintro e w4 ⟨rfl, rfl⟩)
        | (go_at_call 27; (with_reducible refine (HTX.out _).mono ?_); rintro e w5 ⟨rfl, hb5⟩))
      go_ret2
      exact ⟨by rw [HE.out, ← HAP.out]; rfl, HB.out.trans ((b3.trans (hb5.mono b3.size)).mono HB.out.size)⟩
  · have HE : Hid (putM m = ([], checkM m)) := Lib.hid (put_no hc0)
    obtain ⟨c, hc⟩ : ∃ c, c = checkM m := ⟨_, rfl⟩
    rw [← hc] at hck HE hc0
    have HCK := Lib.hid hck
    have hne : (c != 0) = true := bne_iff_ne.2 hc0
    clear hX hB hv1 hS hw1 hv hb hck hc0 hc
    unfold mgv
    go_enter Try.func9, Try.ntmps9
    go_upto_region 1 with fail
    refine wp_at HW.out.symm ?_
    rw [← HS.out]
    clear HW
    go_wp2_with (go_at_call 11; (refine HCK.out.mono ?_); rintro e w2 ⟨rfl, hb2⟩)
    go_ret2
    exact ⟨by rw [HE.out]; rfl, HB.out.trans (hb2.mono HB.out.size)⟩
end Go.Proofs.Ytbfjljbllfjicaa.msg
