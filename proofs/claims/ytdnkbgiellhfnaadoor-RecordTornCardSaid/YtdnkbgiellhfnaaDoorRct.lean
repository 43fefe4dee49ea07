/-
  The walk of RecordTorn.
-/
import Derived.Test.YtdnkbgiellhfnaaDoorRcb
namespace Go.Proofs.YtdnkbgiellhfnaaDoor.rcd
open Go.RowKit Go.Proofs.YtdnkbgiellhfnaaDoor.mem Go.Proofs.YtdnkbgiellhfnaaDoor.sha Go.Proofs.YtdnkbgiellhfnaaDoor.opn Go.Proofs.YtdnkbgiellhfnaaDoor.rows Go.Proofs.YtdnkbgiellhfnaaDoor.ids

section
variable {T : World → Prop}
set_option maxHeartbeats 4000000 in
set_option maxRecDepth 100000 in
theorem torn_walk (hI : RcIs T) {L : List Rc} {v : Value} {w : World} {a : Int} (hT : T w) (hR : RcV w v L) (hm : ∀ r ∈ L, r.body.length ≤ 140737488355328) (hl : L.length ≤ 9223372036854775807) (a0 : 0 ≤ a) (a1 : a ≤ 65535) :
    Calls Tryd.prog 6 #[v, .int .u16 a] w fun e w' => e = .returned (.bool true) ∧ Below w.heap.size w w' := by
  have HI := Lib.hid hI
  have HT := Lib.hid hT
  have HB := Lib.hid (bytes_any hI hT hR hm hl)
  have hle := all20_len L
  have hgl := goodL_len L 20
  have hok := argok (L := L) (i := 20)
  obtain ⟨ad, cap, rfl, -⟩ := hR
  obtain ⟨G, hG⟩ : ∃ G, G = goodL L 20 := ⟨_, rfl⟩
  rw [← hG] at HB hle hgl hok
  obtain ⟨q, hq⟩ : ∃ q, q = oct.tx (enL G) := ⟨_, rfl⟩
  have hqs : q.size = (enL G).length := by rw [hq, oct.tx_size]
  rw [← hq] at HB
  obtain ⟨m, hmm⟩ : ∃ m : Nat, a % ((q.size : Int) + 1) = (m : Int) := ⟨(a % ((q.size : Int) + 1)).toNat, (Int.toNat_of_nonneg (Int.emod_nonneg _ (by omega))).symm⟩
  have hm2 : (m : Int) < (q.size : Int) + 1 := by rw [← hmm]; exact Int.emod_lt_of_pos _ (by omega)
  have hmt : a.tmod ((q.size : Int) + 1) = (m : Int) := by rw [Int.tmod_eq_emod_of_nonneg a0]; exact hmm
  have m0 : (0 : Int) ≤ (m : Int) := Int.natCast_nonneg _
  have mq : (m : Int) ≤ (q.size : Int) := by omega
  have hex : q.extract 0 m = oct.tx ((enL G).take m) := by rw [hq, oct.tx_extract, List.drop_zero]
  have ht := all_torn G hok m (by omega)
  obtain ⟨W, hW⟩ : ∃ W, W = wholeN G m := ⟨_, rfl⟩
  have hWl := wholeN_le G m
  have hwi := whole_iff G m
  rw [← hW] at ht hWl hwi
  obtain ⟨las, hlas⟩ : ∃ z, z = (enL (G.take W)).length := ⟨_, rfl⟩
  rw [← hlas] at ht
  obtain ⟨er, her⟩ : ∃ z : Int, z = if las = m then 0 else 2 := ⟨_, rfl⟩
  rw [← her] at ht
  obtain ⟨x, hx⟩ : ∃ x, x = oct.tx ((enL G).take m) := ⟨_, rfl⟩
  have hxs : x.size ≤ 60000 := by rw [hx, oct.tx_size, List.length_take]; omega
  have hxl : x.data.toList = (enL G).take m := by rw [hx, oct.tx_list]
  rw [← hx] at hex
  have HA := Lib.hid fun u (h : T u) => HI.out.all x u h (by omega)
  rw [hxl, ht] at HA
  simp only at HA
  have HWI := Lib.hid hwi
  have HLA := Lib.hid hlas
  have HER := Lib.hid her
  have q1 : (q.size : Int) ≤ 60000 := by omega
  have q0 : (0 : Int) ≤ (q.size : Int) := Int.natCast_nonneg _
  have hqz : ((q.size : Int) + 1 == 0) = false := beq_eq_false_iff_ne.2 (by omega)
  clear hI hT hm hG hle hok hq hqs hW hwi hlas her hx hxs hxl ht
  go_enter Tryd.func6, Tryd.ntmps6
  go_wp2_with (go_at_call 17; (with_reducible refine HB.out.mono ?_); rintro e w1 ⟨v6, v7, rfl, hBO⟩; have B1 := Lib.hid hBO; clear hBO)
  obtain ⟨hrd, -⟩ := B1.out.n.rdc (by unfold endsV; rw [List.length_map, List.length_range]; omega)
  obtain ⟨ad7, cap7, rfl⟩ := hrd.form
  have hel : (endsV G).length = G.length := by unfold endsV; rw [List.length_map, List.length_range]
  rw [hel] at B1 hrd ⊢
  have HRD := Lib.hid hrd
  have HEL := Lib.hid hel
  clear hrd hel
  go_loopg [9, 10, 11] (G.length + 1) (fun gk s9 s10 s11 wr => ∃ i : Nat, wr = w1 ∧ s11 = .int .i64 i ∧ i ≤ G.length ∧ G.length - i < gk ∧ s9 = .int .i64 ((min i W : Nat) : Int) ∧ s10 = .int .i64 (((enL (G.take (min i W))).length : Nat) : Int))
  case atStart => exact ⟨0, rfl, rfl, Nat.zero_le _, by omega, by rw [Nat.zero_min]; rfl, by rw [Nat.zero_min]; rfl⟩
  case round =>
    obtain ⟨i, rfl, rfl, hi, hgk, rfl, rfl⟩ := hrel
    have i0 : (0 : Int) ≤ (i : Int) := Int.natCast_nonneg _
    by_cases hlt : i < G.length
    · have hltz : (i : Int) < (G.length : Int) := by omega
      obtain ⟨b, off, rfl, hbl, hc⟩ := HRD.out.cell (i := i) (by rw [HEL.out]; exact hlt)
      have hv : (endsV G).getD i undef = .int .i64 ((enL (G.take (i + 1))).length : Int) := by
        unfold endsV
        rw [List.getD_eq_getElem?_getD, List.getElem?_map, List.getElem?_range hlt]
        rfl
      rw [hv] at hc
      have hwi := HWI.out i hlt
      obtain ⟨z, hz⟩ : ∃ z, z = (enL (G.take (i + 1))).length := ⟨_, rfl⟩
      rw [← hz] at hc hwi
      have HZ := Lib.hid hz
      obtain ⟨c9, hc9⟩ : ∃ c, c = min i W := ⟨_, rfl⟩
      rw [← hc9]
      have HC9 := Lib.hid hc9
      clear hv hz hc9
      by_cases hiW : i < W
      · have hzm : (z : Int) ≤ (m : Int) := by have := hwi.2 hiW; omega
        have hmin : min (i + 1) W = i + 1 := by omega
        clear hwi
        go_wp2_with fail
        go_roundg (G.length - i)
        case measure => omega
        case rel => exact ⟨i + 1, rfl, by go_num, hlt, by omega, by rw [hmin]; go_num, by rw [hmin, ← HZ.out]⟩
      · have hzm : ¬ (z : Int) ≤ (m : Int) := by
          intro h
          exact hiW (hwi.1 (by omega))
        have hmin : min (i + 1) W = c9 := by rw [HC9.out]; omega
        clear hwi
        go_wp2_with fail
        go_roundg (G.length - i)
        case measure => omega
        case rel => exact ⟨i + 1, rfl, by go_num, hlt, by omega, by rw [hmin], by rw [hmin]⟩
    · have hltz : ¬ (i : Int) < (G.length : Int) := by omega
      have hmin : min i W = W := by omega
      rw [hmin, ← HLA.out]
      obtain ⟨ad6, cap6, h6⟩ := OwnK.form B1.out.r
      rw [List.length_map] at h6
      subst h6
      have hsl := fun u => (slice_rc B1.out.r W hWl u).1
      have HSL := Lib.hid (slice_rc B1.out.r W hWl wr).2
      clear hmin HRD
      by_cases hlm : las = m
      · have he : er = 0 := by rw [HER.out, if_pos hlm]
        subst he
        have hb1 : ((las : Int) == (m : Int)) = true := by rw [hlm]; exact beq_self_eq_true _
        clear hlm
        go_wp2_with (first
        | (go_at_call 14; (with_reducible refine (HA.out _ (HI.out.next HT.out B1.out.below)).mono ?_); rintro e w2 ⟨v2, rfl, hO2, hb2⟩; have B2 := Lib.hid (B1.out.next hb2); have HS := Lib.hid (same_eq (OwnR.rcv hO2) (OwnR.rcv (OwnK.next HSL.out hb2)) (by rw [List.length_take]; omega)); clear hO2 hb2)
        | (go_at_call 16; (with_reducible refine HS.out.mono ?_); rintro e w3 ⟨rfl, hb3⟩; have B3 := Lib.hid (B2.out.next hb3); clear hb3)
        | (go_at_call 8; (with_reducible refine (awake_any HI.out _ (HI.out.next HT.out B3.out.below)).mono ?_); rintro e w4 ⟨rfl, hb4⟩))
        go_ret
        exact ⟨rfl, B3.out.below.trans (hb4.mono B3.out.below.size)⟩
      · have he : er = 2 := by rw [HER.out, if_neg hlm]
        subst he
        have hb1 : ((las : Int) == (m : Int)) = false := beq_eq_false_iff_ne.2 (by omega)
        clear hlm
        go_wp2_with (first
        | (go_at_call 14; (with_reducible refine (HA.out _ (HI.out.next HT.out B1.out.below)).mono ?_); rintro e w2 ⟨v2, rfl, hO2, hb2⟩; have B2 := Lib.hid (B1.out.next hb2); have HS := Lib.hid (same_eq (OwnR.rcv hO2) (OwnR.rcv (OwnK.next HSL.out hb2)) (by rw [List.length_take]; omega)); clear hO2 hb2)
        | (go_at_call 16; (with_reducible refine HS.out.mono ?_); rintro e w3 ⟨rfl, hb3⟩; have B3 := Lib.hid (B2.out.next hb3); clear hb3)
        | (go_at_call 8; (with_reducible refine (awake_any HI.out _ (HI.out.next HT.out B3.out.below)).mono ?_); rintro e w4 ⟨rfl, hb4⟩))
        go_ret
        exact ⟨rfl, B3.out.below.trans (hb4.mono B3.out.below.size)⟩
end
end Go.Proofs.YtdnkbgiellhfnaaDoor.rcd
