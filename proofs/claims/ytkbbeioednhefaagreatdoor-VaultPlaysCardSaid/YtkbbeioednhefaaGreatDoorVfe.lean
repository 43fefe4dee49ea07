/-
  petrelref13's lay and put.
-/
import Derived.Test.YtkbbeioednhefaaGreatDoorVfd
import Derived.Test.YtkbbeioednhefaaGreatDoorVtis
import Derived.Test.YtkbbeioednhefaaGreatDoorJnb
namespace Go.Proofs.YtkbbeioednhefaaGreatDoor.vt
open Go.RowKit Go.Proofs.YtkbbeioednhefaaGreatDoor.mem Go.Proofs.YtkbbeioednhefaaGreatDoor.sha Go.Proofs.YtkbbeioednhefaaGreatDoor.strx Go.Proofs.YtkbbeioednhefaaGreatDoor.rows Go.Proofs.YtkbbeioednhefaaGreatDoor.ids Go.Proofs.YtkbbeioednhefaaGreatDoor.rcd Go.Proofs.YtkbbeioednhefaaGreatDoor.jn Go.Proofs.YtkbbeioednhefaaGreatDoor.txl

theorem results_lay {fn : Func} {p q : Tmp} (h : fn.results = #[.cell p 29, .tmp q]) (tmps : Array Value) (w : World) (g : Nat) (cs : Array Value) (hs : cs.size = 4)
    (hp : tmps.getD p undef = .pointer (some ⟨g, 0, none⟩)) (hg : Blk w g 29 cs) :
    (results fn tmps).run Tryz.prog w = .ok (.tuple #[.agg cs, tmps.getD q undef]) w := by
  have hp' : tmps[p]?.getD undef = .pointer (some ⟨g, 0, none⟩) := by simpa using hp
  have hl := run_loadVar_row w g 29 29 cs (0, 0) _ hg Tryz.underlying29 rfl (by rw [info_jn, hs])
  simp [results, h, hp', asAddr, hl]
/-- the journal that is being laid, in block J: its list in blocks of its own -/
structure LJ (w0 : World) (J : Nat) (j : Jr) (v : Value) (w : World) : Prop where
  jx : JX w J j v
  l : OwnR w (fun k => w0.heap.size ≤ k ∧ k ≠ J) v j.l
  b : Below w0.heap.size w0 w
  ge : w0.heap.size ≤ J
theorem LJ.app {w0 w w' : World} {J : Nat} {j j' : Jr} {v v' : Value} (h : LJ w0 J j v w) (hj : JX w' J j' v') (hl : (v' = v ∧ j'.l = j.l) ∨ OwnR w' (w.heap.size ≤ ·) v' j'.l) (ht : Turn (fun k => k = J ∨ w.heap.size ≤ k) w w') : LJ w0 J j' v' w' := by
  have hs := h.b.size
  have hlt := Blk.lt h.jx
  refine ⟨hj, ?_, h.b.trans (ht.below fun k hk => hk.elim (fun e => by rw [e]; exact h.ge) fun e => by omega), h.ge⟩
  rcases hl with ⟨e1, e2⟩ | hO
  · rw [e1, e2]
    exact ornt h.l ht fun k hk hlt hh => hh.elim hk.2 fun e => by omega
  · exact ornp hO fun k hk => by
      have hk' : w.heap.size ≤ k := hk
      exact ⟨by omega, by omega⟩
theorem LJ.next {w0 w w' : World} {J : Nat} {j : Jr} {v : Value} (h : LJ w0 J j v w) (hb : Below w.heap.size w w') : LJ w0 J j v w' :=
  ⟨Blk.below h.jx hb (Blk.lt h.jx), ornx h.l hb, h.b.trans (hb.mono h.b.size), h.ge⟩
theorem LJ.run {w0 w : World} {J : Nat} {j : Jr} {v : Value} (h : LJ w0 J j v w) (r : Rc) (hl : j.l.length ≤ 30000) (hs : j.s.length ≤ 1000000) (hb : r.body.length ≤ 140737488355328) :
    Calls Tryz.prog 25 #[.pointer (some ⟨J, 0, none⟩), recv r] w fun e w' => ∃ v', e = .returned (.int .i64 (appJ j r).2) ∧ LJ w0 J (appJ j r).1 v' w' ∧ Turn (fun k => k = J ∨ w.heap.size ≤ k) w w' := by
  refine (append_ref J j v r w h.jx (OwnR.rcv h.l) hl hs hb fun k hk => (h.l.2.2 k hk).2).mono ?_
  rintro e w' ⟨v', he, hj, hl', ht⟩
  exact ⟨v', he, h.app hj hl' ht, ht⟩
def jl4 (t : ByteArray) (k : Nat) (v : Value) (m : Nat) : Array Value := #[.string t, .int .i64 (k : Int), v, .int .i64 (m : Int)]
def LayAns (w : World) (v : Vt) (L : List (List UInt8)) (e : Ending) (w' : World) : Prop :=
  ∃ J jl, e = .returned (.tuple #[.agg (jcells (oct.tx J.s) J.k jl J.m), .int .i64 (layE v L)]) ∧ (layE v L = 0 → J = layJ v.no L) ∧ (layE v L ≠ 0 → J = j0) ∧ OwnR w' (w.heap.size ≤ ·) jl J.l ∧ Below w.heap.size w w'
set_option maxHeartbeats 8000000 in
set_option maxRecDepth 100000 in
theorem lay_ref (F N : Nat → Prop) (X : Nat) (v : Vt) (la lb lv : Value) (L : List (List UInt8)) (w : World) (h : VX w F X v la lb) (hl : TxA w N lv L) (hL : smallL L) (hn : 0 ≤ v.no) :
    Calls Tryz.prog 39 #[.pointer (some ⟨X, 0, none⟩), lv] w (LayAns w v L) := by
  have hX := h.blk.lt
  have c9 : w.cell? ⟨X, 9, none⟩ = some (.int .i64 v.no) := h.blk.cell 9
  obtain ⟨n, hnn⟩ : ∃ n, n = L.length := ⟨_, rfl⟩
  obtain ⟨ad, cap, rfl, hC⟩ := hl
  have HC := Lib.hid hC
  have HNN := Lib.hid hnn
  have HL := Lib.hid hL
  rw [← hnn]
  have hn30 : n ≤ 30 := by rw [hnn]; exact hL.1
  obtain ⟨q, hq⟩ : ∃ q, q = v.no := ⟨_, rfl⟩
  rw [← hq] at c9 hn
  obtain ⟨R, hR⟩ : ∃ R, R = w.heap.size := ⟨_, rfl⟩
  have z4 : (w.alloc (.cells #[.string ⟨#[]⟩, .int .i64 0, .slice none 0 0, .int .i64 0] 29)).heap.size = R + 1 := by rw [hR]; simp
  have hbR := Blk.at_ hR.symm 29 #[.string ⟨#[]⟩, .int .i64 0, .slice none 0 0, .int .i64 0]
  have hb1 : Below w.heap.size w (w.alloc (.cells #[.string ⟨#[]⟩, .int .i64 0, .slice none 0 0, .int .i64 0] 29)) := (Below.refl _ _).alloc (Nat.le_refl _) _
  obtain ⟨w1, hw1⟩ : ∃ u, u = w.alloc (.cells #[.string ⟨#[]⟩, .int .i64 0, .slice none 0 0, .int .i64 0] 29) := ⟨_, rfl⟩
  rw [← hw1] at z4 hbR hb1
  have hbJ := Blk.at_ z4 29 #[.string ⟨#[]⟩, .int .i64 0, .slice none 0 0, .int .i64 0]
  have hb2 : Below w1.heap.size w1 (w1.alloc (.cells #[.string ⟨#[]⟩, .int .i64 0, .slice none 0 0, .int .i64 0] 29)) := (Below.refl _ _).alloc (Nat.le_refl _) _
  obtain ⟨w2, hw2⟩ : ∃ u, u = w1.alloc (.cells #[.string ⟨#[]⟩, .int .i64 0, .slice none 0 0, .int .i64 0] 29) := ⟨_, rfl⟩
  rw [← hw2] at hbJ hb2
  have hbR2 := hbR.below hb2 hbR.lt
  have hB2 : Below w.heap.size w w2 := hb1.trans (hb2.mono hb1.size)
  have c92 : w2.cell? ⟨X, 9, none⟩ = some (.int .i64 q) := (hB2.cell (p := ⟨X, 9, none⟩) hX).trans c9
  have HLJ : Hid (LJ w (R + 1) j0 (.slice none 0 0) w2) := Lib.hid ⟨hbJ, OwnK.nil _ _ _ _, hB2, by rw [hR]; omega⟩
  have HBR2 := Lib.hid hbR2
  have HW1 := Lib.hid hw1
  have HW2 := Lib.hid hw2
  have HRR := Lib.hid hR
  have HZ4 := Lib.hid z4
  have HQ := Lib.hid hq
  have HB2 := Lib.hid hB2
  clear h hC hnn hL hq hR z4 hbR hb1 hw1 hbJ hb2 hw2 hbR2 hB2
  go_enter Tryz.func39, Tryz.ntmps39
  go_upto_region 1 with fail
  rw [← HW1.out, ← HRR.out]
  go_upto_region 2 with fail
  rw [← HW2.out, HZ4.out]
  by_cases hno : 2147483647 ≤ q
  · have hE : layE v L = 3 := by unfold layE; rw [if_pos (by rw [← HQ.out]; exact hno)]
    have HE := Lib.hid hE
    have r0 : w2.cell? ⟨R, 0, none⟩ = some (.string ⟨#[]⟩) := HBR2.out.cell 0
    have r1 : w2.cell? ⟨R, 1, none⟩ = some (.int .i64 0) := HBR2.out.cell 1
    have r2 : w2.cell? ⟨R, 2, none⟩ = some (.slice none 0 0) := HBR2.out.cell 2
    have r3 : w2.cell? ⟨R, 3, none⟩ = some (.int .i64 0) := HBR2.out.cell 3
    have f0 := HBR2.out.frozen 0
    have f1 := HBR2.out.frozen 1
    have f2 := HBR2.out.frozen 2
    have f3 := HBR2.out.frozen 3
    have j0' : w2.cell? ⟨R + 1, 0, none⟩ = some (.string ⟨#[]⟩) := Blk.cell HLJ.out.jx 0
    have j1' : w2.cell? ⟨R + 1, 1, none⟩ = some (.int .i64 0) := Blk.cell HLJ.out.jx 1
    have j2' : w2.cell? ⟨R + 1, 2, none⟩ = some (.slice none 0 0) := Blk.cell HLJ.out.jx 2
    have j3' : w2.cell? ⟨R + 1, 3, none⟩ = some (.int .i64 0) := Blk.cell HLJ.out.jx 3
    clear hE
    go_wp2_with fail
    have hT : Turn (· = R) w2 ((((w2.setCell ⟨R, 0, none⟩ (.string ⟨#[]⟩)).setCell ⟨R, 1, none⟩ (.int .i64 0)).setCell ⟨R, 2, none⟩ (.slice none 0 0)).setCell ⟨R, 3, none⟩ (.int .i64 0)) := ((((Turn.refl (· = R) w2).setCell (p := ⟨R, 0, none⟩) rfl _).setCell (p := ⟨R, 1, none⟩) rfl _).setCell (p := ⟨R, 2, none⟩) rfl _).setCell (p := ⟨R, 3, none⟩) rfl _
    have hbl := (((HBR2.out.set_ 0 (.string ⟨#[]⟩)).set_ 1 (.int .i64 0)).set_ 2 (.slice none 0 0)).set_ 3 (.int .i64 0)
    refine bodyPost_ret (results_lay rfl _ _ R _ rfl rfl hbl) rfl ⟨j0, .slice none 0 0, by rw [HE.out]; rfl, ?_, ?_, OwnK.nil _ _ _ _, HB2.out.trans (hT.below fun k hk => by have := HRR.out; omega)⟩
    · intro e
      rw [HE.out] at e
      cases e
    · exact fun _ => rfl
  have hq1 : ¬ q ≥ 2147483647 := by omega
  have hq2 : ¬ 2147483647 ≤ q := hno
  have hE : layE v L = 0 := layE_zero (by rw [← HQ.out]; omega) fun s hs => Nat.le_trans (HL.out.2 s hs) (by decide)
  have HE := Lib.hid hE
  have wq : IntKind.i64.wrap (q + 1) = q + 1 := by rw [IntKind.wrap_i64]; omega
  have HTX : Hid (∀ i, i < n → (bt (L.getD i [])).size ≤ 300 ∧ L.getD i [] ∈ L) := Lib.hid fun i hi => by
    have hm : L.getD i [] ∈ L := by
      rw [List.getD_eq_getElem?_getD, List.getElem?_eq_getElem (by have := HNN.out; omega)]
      exact List.getElem_mem _
    exact ⟨by rw [bt_size]; exact HL.out.2 _ hm, hm⟩
  have HGE := Lib.hid fun u => gen_ref (q + 1) (by omega) (by omega) u
  have HCU : Hid (∀ u, Below w.heap.size w u → ∀ i, i < n → ∃ b off, ad = some ⟨b, off, none⟩ ∧ b < w.heap.size ∧ u.cell? ⟨b, off + i, none⟩ = some (.string (bt (L.getD i [])))) := Lib.hid fun u hu i hi => by
    obtain ⟨b, off, e, hb, _, hc⟩ := HC.out i (by have := HNN.out; omega)
    exact ⟨b, off, e, hb, (hu.cell (p := ⟨b, off + i, none⟩) hb).trans hc⟩
  have n0 : (0 : Int) ≤ (n : Int) := Int.natCast_nonneg _
  clear hE hno
  go_wp2_with fail
  go_loopg [7] (n + 1) (fun gk s7 wr => w2 = wr ∧ ∃ i : Nat, s7 = .int .i64 i ∧ i ≤ n ∧ n - i < gk)
  case atStart => exact ⟨rfl, 0, rfl, Nat.zero_le _, by omega⟩
  case round =>
    obtain ⟨rfl, i, rfl, hi, hgk⟩ := hrel
    have i0 : (0 : Int) ≤ (i : Int) := Int.natCast_nonneg _
    by_cases hlt : i < n
    · have hltz : (i : Int) < (n : Int) := by omega
      obtain ⟨b, off, rfl, hbl, a0⟩ := HCU.out w2 HB2.out i hlt
      have htz := (HTX.out i hlt).1
      obtain ⟨t, ht⟩ : ∃ t, t = bt (L.getD i []) := ⟨_, rfl⟩
      rw [← ht] at a0 htz
      have hz : ¬ (1048576 : Int) < (t.size : Int) := by omega
      clear ht htz
      go_wp2_with fail
      go_roundg (n - i)
      case measure => omega
      case rel => exact ⟨rfl, i + 1, by go_num, hlt, by omega⟩
    · have hlt' : ¬ (i : Int) < (n : Int) := by omega
      have HAP := Lib.hid fun u (h : LJ w (R + 1) j0 (.slice none 0 0) u) => h.run (genR (q + 1)) (by decide) (by decide) (by rw [show (genR (q + 1)).body.length = 4 from opn.b4_len _]; decide)
      go_wp2_with (first
        | (go_at_call 26; (with_reducible refine (HGE.out _).mono ?_); rintro e w3 ⟨rfl, hb3⟩; have HL3 := Lib.hid (HLJ.out.next hb3); have HR3 := Lib.hid (HBR2.out.below hb3 HBR2.out.lt); clear hb3)
        | (go_at_call 25; (with_reducible refine (HAP.out _ HL3.out).mono ?_); rintro e w4 ⟨v4, rfl, hl4, ht4⟩; have HL4 := Lib.hid hl4; have HR4 := Lib.hid (Blk.turn HR3.out ht4 fun hh => hh.elim (fun e => by omega) fun e => by have := HR3.out.lt; omega); clear hl4 ht4 HL3 HR3))
      go_loopg [8] (n + 1) (fun gk s8 wr => ∃ (i : Nat) (vj : Value), s8 = .int .i64 i ∧ i ≤ n ∧ n - i < gk ∧ Hid (LJ w (R + 1) (jat q L i) vj wr) ∧ Hid (Blk wr R 29 #[.string ⟨#[]⟩, .int .i64 0, .slice none 0 0, .int .i64 0]))
      case atStart => exact ⟨0, v4, rfl, Nat.zero_le _, by omega, HL4, HR4⟩
      case round =>
        obtain ⟨i, vj, rfl, hi, hgk, HLi, HRi⟩ := hrel
        clear HL4 HR4
        have i0 : (0 : Int) ≤ (i : Int) := Int.natCast_nonneg _
        have hsz := jat_size q L HL.out.2 i (by have := HNN.out; omega)
        by_cases hlt : i < n
        · have hltz : (i : Int) < (n : Int) := by omega
          obtain ⟨b, off, rfl, hbl, a0⟩ := HCU.out wr HLi.out.b i hlt
          have htz := (HTX.out i hlt).1
          have hjs := jat_succ q L i (by have := HNN.out; omega)
          have HAE := Lib.hid (HLi.out.run (entR (L.getD i [])) (by omega) (by omega) (by show (L.getD i []).length ≤ _; rw [bt_size] at htz; omega))
          simp only [recv, entR] at HAE
          rw [show (⟨3, L.getD i []⟩ : Rc) = entR (L.getD i []) from rfl, ← hjs, show oct.tx (L.getD i []) = bt (L.getD i []) from rfl] at HAE
          obtain ⟨t, ht⟩ : ∃ t, t = bt (L.getD i []) := ⟨_, rfl⟩
          rw [← ht] at a0 HAE
          clear ht htz hjs hsz
          go_wp2_with (go_at_call 25; (with_reducible refine HAE.out.mono ?_); rintro e w5 ⟨v5, rfl, hl5, ht5⟩; have HL5 := Lib.hid hl5; have HR5 := Lib.hid (Blk.turn HRi.out ht5 fun hh => hh.elim (fun e => by omega) fun e => by have := HRi.out.lt; omega); clear hl5 ht5)
          go_roundg (n - i)
          case measure => omega
          case rel => exact ⟨i + 1, v5, by go_num, hlt, by omega, HL5, HR5⟩
        · have hlt' : ¬ (i : Int) < (n : Int) := by omega
          have hie : i = L.length := by have := HNN.out; omega
          have HAS := Lib.hid (HLi.out.run sealR (by omega) (by omega) (by decide))
          rw [hie, ← jat_all] at HAS
          simp only [recv, sealR, show oct.tx [] = (⟨#[]⟩ : ByteArray) from rfl] at HAS
          obtain ⟨J, hJ⟩ : ∃ J, J = layJ q L := ⟨_, rfl⟩
          rw [← hJ] at HAS
          obtain ⟨tJ, htJ⟩ : ∃ t, t = oct.tx J.s := ⟨_, rfl⟩
          have HJJ := Lib.hid hJ
          have HTJ := Lib.hid htJ
          clear hie hsz hJ htJ
          go_upto_region 15 with (go_at_call 25; (with_reducible refine HAS.out.mono ?_); rintro e w6 ⟨v6, rfl, hl6, ht6⟩; obtain ⟨a6, c6, e6⟩ := OwnK.form hl6.l; rw [List.length_map] at e6; subst e6; have hbR6 := Blk.turn HRi.out ht6 (fun hh => hh.elim (fun e => by omega) fun e => (by have := HRi.out.lt; omega)); have HL6 := Lib.hid hl6; have HR6 := Lib.hid hbR6; clear ht6 hbR6 hl6)
          have hJ6 : Blk w6 (R + 1) 29 #[.string tJ, .int .i64 (J.k : Int), .slice a6 J.l.length c6, .int .i64 (J.m : Int)] := by
            rw [HTJ.out]
            exact HL6.out.jx
          have r0 : w6.cell? ⟨R, 0, none⟩ = some (.string ⟨#[]⟩) := HR6.out.cell 0
          have r1 : w6.cell? ⟨R, 1, none⟩ = some (.int .i64 0) := HR6.out.cell 1
          have r2 : w6.cell? ⟨R, 2, none⟩ = some (.slice none 0 0) := HR6.out.cell 2
          have r3 : w6.cell? ⟨R, 3, none⟩ = some (.int .i64 0) := HR6.out.cell 3
          have f0 := HR6.out.frozen 0
          have f1 := HR6.out.frozen 1
          have f2 := HR6.out.frozen 2
          have f3 := HR6.out.frozen 3
          have y0 : w6.cell? ⟨R + 1, 0, none⟩ = some (.string tJ) := hJ6.cell 0
          have y1 : w6.cell? ⟨R + 1, 1, none⟩ = some (.int .i64 (J.k : Int)) := hJ6.cell 1
          have y2 : w6.cell? ⟨R + 1, 2, none⟩ = some (.slice a6 J.l.length c6) := hJ6.cell 2
          have y3 : w6.cell? ⟨R + 1, 3, none⟩ = some (.int .i64 (J.m : Int)) := hJ6.cell 3
          clear hJ6
          go_wp2_with fail
          have hT : Turn (· = R) w6 ((((w6.setCell ⟨R, 0, none⟩ (.string tJ)).setCell ⟨R, 1, none⟩ (.int .i64 (J.k : Int))).setCell ⟨R, 2, none⟩ (.slice a6 J.l.length c6)).setCell ⟨R, 3, none⟩ (.int .i64 (J.m : Int))) := ((((Turn.refl (· = R) w6).setCell (p := ⟨R, 0, none⟩) rfl _).setCell (p := ⟨R, 1, none⟩) rfl _).setCell (p := ⟨R, 2, none⟩) rfl _).setCell (p := ⟨R, 3, none⟩) rfl _
          have hbl := (((HR6.out.set_ 0 (.string tJ)).set_ 1 (.int .i64 (J.k : Int))).set_ 2 (.slice a6 J.l.length c6)).set_ 3 (.int .i64 (J.m : Int))
          refine bodyPost_ret (results_lay rfl _ _ R _ rfl rfl hbl) rfl ⟨J, .slice a6 J.l.length c6, by rw [HE.out, ← HTJ.out]; rfl, fun _ => by rw [HJJ.out, HQ.out], fun e => absurd HE.out e, ?_, HL6.out.b.trans (hT.below fun k hk => by have := HRR.out; omega)⟩
          have h9 : OwnR _ _ _ _ := OwnK.turn HL6.out.l hT fun k hk hh => by
            subst hh
            exact ownk_ne HL6.out.l HR6.out (by decide) hk
          exact ornp h9 fun k hk => hk.1
end Go.Proofs.YtkbbeioednhefaaGreatDoor.vt
