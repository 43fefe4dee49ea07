/-
  petrelref13's put, Snap, Die, New: the plain Vault in block X.
-/
import Derived.Test.YtkbbeioednhefaaGreatDoorVfe
namespace Go.Proofs.YtkbbeioednhefaaGreatDoor.vt
open Go.RowKit Go.Proofs.YtkbbeioednhefaaGreatDoor.mem Go.Proofs.YtkbbeioednhefaaGreatDoor.sha Go.Proofs.YtkbbeioednhefaaGreatDoor.strx Go.Proofs.YtkbbeioednhefaaGreatDoor.rows Go.Proofs.YtkbbeioednhefaaGreatDoor.ids Go.Proofs.YtkbbeioednhefaaGreatDoor.rcd Go.Proofs.YtkbbeioednhefaaGreatDoor.jn Go.Proofs.YtkbbeioednhefaaGreatDoor.txl

set_option maxHeartbeats 8000000 in
set_option maxRecDepth 100000 in
theorem put_ref13 (F G : Nat → Prop) (X : Nat) (v : Vt) (la lb jv : Value) (J : Jr) (w : World) (h : VX w F X v la lb) (hu : v.use = 0 ∨ v.use = 1) (hJ : OwnR w G jv J.l) (hG : ¬ G X) :
    Calls Tryz.prog 40 #[.pointer (some ⟨X, 0, none⟩), .agg (jcells (oct.tx J.s) J.k jv J.m)] w fun e w' => e = .returned (.tuple #[]) ∧ VXR w (fun k => F k ∨ G k) X (v.oth J) w' := by
  have hX := h.blk.lt
  have c8 : w.cell? ⟨X, 8, none⟩ = some (.int .i64 v.use) := h.blk.cell 8
  obtain ⟨aj, cj, ej⟩ := OwnK.form hJ
  rw [List.length_map] at ej
  subst ej
  obtain ⟨tJ, htJ⟩ : ∃ t, t = oct.tx J.s := ⟨_, rfl⟩
  rw [← htJ]
  have HTJ := Lib.hid htJ
  have hb1 : Below w.heap.size w (w.alloc (.cells #[.string tJ, .int .i64 (J.k : Int), .slice aj J.l.length cj, .int .i64 (J.m : Int)] 29)) := (Below.refl _ _).alloc (Nat.le_refl _) _
  have hB := Blk.new w 29 #[.string tJ, .int .i64 (J.k : Int), .slice aj J.l.length cj, .int .i64 (J.m : Int)]
  obtain ⟨w1, hw1⟩ : ∃ u, u = w.alloc (.cells #[.string tJ, .int .i64 (J.k : Int), .slice aj J.l.length cj, .int .i64 (J.m : Int)] 29) := ⟨_, rfl⟩
  rw [← hw1] at hb1 hB
  have H1 := Lib.hid (h.next hb1)
  have HJ1 := Lib.hid (ornx hJ hb1)
  have HGX := Lib.hid hG
  have HB1 := Lib.hid hB
  have HW1 := Lib.hid hw1
  have HBW := Lib.hid hb1
  have hne : X ≠ w.heap.size := by omega
  have hne' : ¬ w.heap.size = X := by omega
  have d8 := h.next hb1
  unfold jcells
  clear hJ hG htJ hB hw1
  rcases hu with hu | hu
  · have HU8 := Lib.hid (show w1.cell? ⟨X, 8, none⟩ = some (.int .i64 0) by have := d8.blk.cell 8; rw [← hu]; exact this)
    clear d8 hb1
    have x0 : w.cell? ⟨X, 4, none⟩ = some (.string (oct.tx v.b.s)) := h.blk.cell 4
    have f0 := h.blk.frozen 4
    have x1 : w.cell? ⟨X, 5, none⟩ = some (.int .i64 (v.b.k : Int)) := h.blk.cell 5
    have f1 := h.blk.frozen 5
    have x2 : w.cell? ⟨X, 6, none⟩ = some (lb) := h.blk.cell 6
    have f2 := h.blk.frozen 6
    have x3 : w.cell? ⟨X, 7, none⟩ = some (.int .i64 (v.b.m : Int)) := h.blk.cell 7
    have f3 := h.blk.frozen 7
    have e1 : v.oth J = { v with b := J } := by unfold Vt.oth; rw [if_pos hu]
    rw [e1]
    rw [hu] at c8
    clear h hu e1
    go_enter Tryz.func40, Tryz.ntmps40
    go_upto_region 1 with fail
    rw [← HW1.out]
    clear x0 x1 x2 x3 f0 f1 f2 f3 c8
    have x0 : w1.cell? ⟨X, 4, none⟩ = some (.string (oct.tx v.b.s)) := H1.out.blk.cell 4
    have f0 := H1.out.blk.frozen 4
    have x1 : w1.cell? ⟨X, 5, none⟩ = some (.int .i64 (v.b.k : Int)) := H1.out.blk.cell 5
    have f1 := H1.out.blk.frozen 5
    have x2 : w1.cell? ⟨X, 6, none⟩ = some (lb) := H1.out.blk.cell 6
    have f2 := H1.out.blk.frozen 6
    have x3 : w1.cell? ⟨X, 7, none⟩ = some (.int .i64 (v.b.m : Int)) := H1.out.blk.cell 7
    have f3 := H1.out.blk.frozen 7
    have y0 : w1.cell? ⟨w.heap.size, 0, none⟩ = some (.string tJ) := HB1.out.cell 0
    have y1 : w1.cell? ⟨w.heap.size, 1, none⟩ = some (.int .i64 (J.k : Int)) := HB1.out.cell 1
    have y2 : w1.cell? ⟨w.heap.size, 2, none⟩ = some (.slice aj J.l.length cj) := HB1.out.cell 2
    have y3 : w1.cell? ⟨w.heap.size, 3, none⟩ = some (.int .i64 (J.m : Int)) := HB1.out.cell 3
    have c8 : w1.cell? ⟨X, 8, none⟩ = some (.int .i64 0) := HU8.out
    go_wp2_with fail
    go_end0
    have hT : Turn (· = X) w1 ((((w1.setCell ⟨X, 4, none⟩ (.string tJ)).setCell ⟨X, 5, none⟩ (.int .i64 (J.k : Int))).setCell ⟨X, 6, none⟩ (.slice aj J.l.length cj)).setCell ⟨X, 7, none⟩ (.int .i64 (J.m : Int))) := (((((Turn.refl (· = X) w1).setCell (p := ⟨X, 4, none⟩) rfl _).setCell (p := ⟨X, 5, none⟩) rfl _).setCell (p := ⟨X, 6, none⟩) rfl _).setCell (p := ⟨X, 7, none⟩) rfl _)
    have hbl := ((((H1.out.blk.set_ 4 (.string tJ)).set_ 5 (.int .i64 (J.k : Int))).set_ 6 (.slice aj J.l.length cj)).set_ 7 (.int .i64 (J.m : Int)))
    obtain ⟨w4, hw4⟩ : ∃ u, u = ((((w1.setCell ⟨X, 4, none⟩ (.string tJ)).setCell ⟨X, 5, none⟩ (.int .i64 (J.k : Int))).setCell ⟨X, 6, none⟩ (.slice aj J.l.length cj)).setCell ⟨X, 7, none⟩ (.int .i64 (J.m : Int))) := ⟨_, rfl⟩
    rw [← hw4] at hT hbl
    rw [← hw4]
    simp only [vcl, List.setIfInBounds_toArray, List.set_cons_zero, List.set_cons_succ] at hbl
    have HBL := Lib.hid hbl
    have HTT := Lib.hid hT
    clear hbl hT hw4
    have hbk : Blk w4 X 31 (vcl { v with b := J } la (.slice aj J.l.length cj)) := by
      unfold vcl
      simp only
      rw [← HTJ.out]
      exact HBL.out
    have hvx : VX w4 (fun k => (F k ∨ G k) ∨ w.heap.size ≤ k) X { v with b := J } la (.slice aj J.l.length cj) := ⟨hbk, ornp (OwnK.turn (G := (· = X)) H1.out.a HTT.out fun k hk e => H1.out.x (e ▸ H1.out.a.2.2 k hk)) fun k hk => .inl (.inl hk), ornp (OwnK.turn (G := (· = X)) HJ1.out HTT.out fun k hk e => HGX.out (e ▸ HJ1.out.2.2 k hk)) fun k hk => .inl (.inr hk), fun hh => hh.elim (fun e => e.elim H1.out.x HGX.out) fun e => by omega⟩
    exact ⟨rfl, _, _, hvx, ((Turn.ofBelow HBW.out).mono fun k hk => .inr hk).trans (HTT.out.mono fun k hk => .inl hk)⟩
  · have HU8 := Lib.hid (show w1.cell? ⟨X, 8, none⟩ = some (.int .i64 1) by have := d8.blk.cell 8; rw [← hu]; exact this)
    clear d8 hb1
    have x0 : w.cell? ⟨X, 0, none⟩ = some (.string (oct.tx v.a.s)) := h.blk.cell 0
    have f0 := h.blk.frozen 0
    have x1 : w.cell? ⟨X, 1, none⟩ = some (.int .i64 (v.a.k : Int)) := h.blk.cell 1
    have f1 := h.blk.frozen 1
    have x2 : w.cell? ⟨X, 2, none⟩ = some (la) := h.blk.cell 2
    have f2 := h.blk.frozen 2
    have x3 : w.cell? ⟨X, 3, none⟩ = some (.int .i64 (v.a.m : Int)) := h.blk.cell 3
    have f3 := h.blk.frozen 3
    have e1 : v.oth J = { v with a := J } := by unfold Vt.oth; rw [if_neg (by omega)]
    rw [e1]
    rw [hu] at c8
    clear h hu e1
    go_enter Tryz.func40, Tryz.ntmps40
    go_upto_region 1 with fail
    rw [← HW1.out]
    clear x0 x1 x2 x3 f0 f1 f2 f3 c8
    have x0 : w1.cell? ⟨X, 0, none⟩ = some (.string (oct.tx v.a.s)) := H1.out.blk.cell 0
    have f0 := H1.out.blk.frozen 0
    have x1 : w1.cell? ⟨X, 1, none⟩ = some (.int .i64 (v.a.k : Int)) := H1.out.blk.cell 1
    have f1 := H1.out.blk.frozen 1
    have x2 : w1.cell? ⟨X, 2, none⟩ = some (la) := H1.out.blk.cell 2
    have f2 := H1.out.blk.frozen 2
    have x3 : w1.cell? ⟨X, 3, none⟩ = some (.int .i64 (v.a.m : Int)) := H1.out.blk.cell 3
    have f3 := H1.out.blk.frozen 3
    have y0 : w1.cell? ⟨w.heap.size, 0, none⟩ = some (.string tJ) := HB1.out.cell 0
    have y1 : w1.cell? ⟨w.heap.size, 1, none⟩ = some (.int .i64 (J.k : Int)) := HB1.out.cell 1
    have y2 : w1.cell? ⟨w.heap.size, 2, none⟩ = some (.slice aj J.l.length cj) := HB1.out.cell 2
    have y3 : w1.cell? ⟨w.heap.size, 3, none⟩ = some (.int .i64 (J.m : Int)) := HB1.out.cell 3
    have c8 : w1.cell? ⟨X, 8, none⟩ = some (.int .i64 1) := HU8.out
    go_wp2_with fail
    go_end0
    have hT : Turn (· = X) w1 ((((w1.setCell ⟨X, 0, none⟩ (.string tJ)).setCell ⟨X, 1, none⟩ (.int .i64 (J.k : Int))).setCell ⟨X, 2, none⟩ (.slice aj J.l.length cj)).setCell ⟨X, 3, none⟩ (.int .i64 (J.m : Int))) := (((((Turn.refl (· = X) w1).setCell (p := ⟨X, 0, none⟩) rfl _).setCell (p := ⟨X, 1, none⟩) rfl _).setCell (p := ⟨X, 2, none⟩) rfl _).setCell (p := ⟨X, 3, none⟩) rfl _)
    have hbl := ((((H1.out.blk.set_ 0 (.string tJ)).set_ 1 (.int .i64 (J.k : Int))).set_ 2 (.slice aj J.l.length cj)).set_ 3 (.int .i64 (J.m : Int)))
    obtain ⟨w4, hw4⟩ : ∃ u, u = ((((w1.setCell ⟨X, 0, none⟩ (.string tJ)).setCell ⟨X, 1, none⟩ (.int .i64 (J.k : Int))).setCell ⟨X, 2, none⟩ (.slice aj J.l.length cj)).setCell ⟨X, 3, none⟩ (.int .i64 (J.m : Int))) := ⟨_, rfl⟩
    rw [← hw4] at hT hbl
    rw [← hw4]
    simp only [vcl, List.setIfInBounds_toArray, List.set_cons_zero, List.set_cons_succ] at hbl
    have HBL := Lib.hid hbl
    have HTT := Lib.hid hT
    clear hbl hT hw4
    have hbk : Blk w4 X 31 (vcl { v with a := J } (.slice aj J.l.length cj) lb) := by
      unfold vcl
      simp only
      rw [← HTJ.out]
      exact HBL.out
    have hvx : VX w4 (fun k => (F k ∨ G k) ∨ w.heap.size ≤ k) X { v with a := J } (.slice aj J.l.length cj) lb := ⟨hbk, ornp (OwnK.turn (G := (· = X)) HJ1.out HTT.out fun k hk e => HGX.out (e ▸ HJ1.out.2.2 k hk)) fun k hk => .inl (.inr hk), ornp (OwnK.turn (G := (· = X)) H1.out.b HTT.out fun k hk e => H1.out.x (e ▸ H1.out.b.2.2 k hk)) fun k hk => .inl (.inl hk), fun hh => hh.elim (fun e => e.elim H1.out.x HGX.out) fun e => by omega⟩
    exact ⟨rfl, _, _, hvx, ((Turn.ofBelow HBW.out).mono fun k hk => .inr hk).trans (HTT.out.mono fun k hk => .inl hk)⟩
theorem VXR.comp {w w1 w2 : World} {F : Nat → Prop} {X : Nat} {v1 v2 : Vt} (h : VXR w F X v1 w1) (h2 : VXR w1 (fun k => F k ∨ w.heap.size ≤ k) X v2 w2) : VXR w F X v2 w2 := by
  obtain ⟨_, _, _, ht⟩ := h
  obtain ⟨la, lb, hx, ht2⟩ := h2
  have hs := ht.size
  refine ⟨la, lb, ⟨hx.blk, ornp hx.a fun k hk => hk.elim id fun e => .inr (by omega), ornp hx.b fun k hk => hk.elim id fun e => .inr (by omega), fun hh => hx.x (.inl hh)⟩, ht.trans (ht2.mono fun k hk => hk.imp id fun e => by omega)⟩
theorem VXR.wide {w w1 : World} {F G : Nat → Prop} {X : Nat} {v1 : Vt} (h : VXR w F X v1 w1) (hg : ∀ k, F k → G k ∨ w.heap.size ≤ k) (hx : ¬ (G X ∨ w.heap.size ≤ X)) : VXR w G X v1 w1 := by
  obtain ⟨la, lb, h1, ht⟩ := h
  exact ⟨la, lb, ⟨h1.blk, ornp h1.a fun k hk => hk.elim (hg k) .inr, ornp h1.b fun k hk => hk.elim (hg k) .inr, hx⟩, ht⟩
theorem sync_use (v : Vt) : (syncV v).1.use = v.use ∧ (syncV v).1.no = v.no := by
  unfold syncV Vt.set
  split <;> exact ⟨rfl, rfl⟩
theorem oth_use (v : Vt) (j : Jr) : (v.oth j).use = v.use ∧ (v.oth j).no = v.no := by
  unfold Vt.oth
  split <;> exact ⟨rfl, rfl⟩
theorem sync_files (v : Vt) : (syncV v).1.a.s = v.a.s ∧ (syncV v).1.b.s = v.b.s := by
  unfold syncV Vt.set Vt.cur
  split <;> exact ⟨rfl, rfl⟩
theorem oth_files (v : Vt) (j : Jr) (h1 : v.a.s.length ≤ 800000) (h2 : v.b.s.length ≤ 800000) (h3 : j.s.length ≤ 800000) : (v.oth j).a.s.length ≤ 800000 ∧ (v.oth j).b.s.length ≤ 800000 := by
  unfold Vt.oth
  split
  · exact ⟨h1, h3⟩
  · exact ⟨h3, h2⟩
/-- sizes, as the calls ask them -/
structure SzV (v : Vt) : Prop where
  w : Wf v.a ∧ Wf v.b
  u : v.use = 0 ∨ v.use = 1
  n : 0 ≤ v.no
  la : v.a.l.length ≤ 30000
  sa : v.a.s.length ≤ 800000
  lb : v.b.l.length ≤ 30000
  sb : v.b.s.length ≤ 800000
theorem lay_wf (no : Int) (L : List (List UInt8)) : Wf (layJ no L) := by
  have h0 : ∀ (l : List (List UInt8)) (j : Jr), Wf j → Wf (l.foldl (fun j s => (appJ j (entR s)).1) j) := by
    intro l
    induction l with
    | nil => exact fun j h => h
    | cons s l ih => exact fun j h => ih _ (h.app _)
  exact (h0 L _ (Wf.app ⟨Nat.le_refl _, Nat.le_refl _⟩ _)).app _
theorem lay_size (no : Int) (L : List (List UInt8)) (hL : smallL L) : (layJ no L).s.length ≤ 20000 ∧ (layJ no L).l.length ≤ 100 := by
  have h := jat_size no L hL.2 L.length (Nat.le_refl _)
  have := appJ_grow (jat no L L.length) sealR
  have hb : sealR.body.length = 0 := rfl
  have hl := hL.1
  rw [jat_all]
  omega
theorem VX.turnY {w w' : World} {F : Nat → Prop} {X Y : Nat} {v : Vt} {la lb : Value} {cs : Array Value} (h : VX w F X v la lb) (hy : Blk w Y 29 cs) (ht : Turn (· = Y) w w') (hne : Y ≠ X) : VX w' F X v la lb :=
  ⟨Blk.turn h.blk ht (by omega), OwnK.turn h.a ht fun k hk e => by subst e; exact ownk_ne h.a hy (by decide) hk, OwnK.turn h.b ht fun k hk e => by subst e; exact ownk_ne h.b hy (by decide) hk, h.x⟩
theorem VX.turnY' {w w' : World} {F : Nat → Prop} {X Y : Nat} {v : Vt} {la lb : Value} {cs : Array Value} (h : VX w F X v la lb) (hy : Blk w Y 29 cs) (ht : Turn (fun k => k = Y ∨ w.heap.size ≤ k) w w') (hne : Y ≠ X) : VX w' F X v la lb := by
  have hX := h.blk.lt
  exact ⟨Blk.turn h.blk ht (by omega), OwnK.turn h.a ht fun k hk e => e.elim (fun e => by subst e; exact ownk_ne h.a hy (by decide) hk) fun e => by have := OwnK.lt h.a hk; omega, OwnK.turn h.b ht fun k hk e => e.elim (fun e => by subst e; exact ownk_ne h.b hy (by decide) hk) fun e => by have := OwnK.lt h.b hk; omega, h.x⟩
/-- a call on the vault, the other journal beside it in block Y -/
theorem beside {w2 w3 : World} {B X Y : Nat} {J : Jr} {jv : Value} (hj : JX w2 Y J jv) (ho : OwnR w2 (B ≤ ·) jv J.l) (ht : Turn (fun k => k = X ∨ w2.heap.size ≤ k) w2 w3) (hne : Y ≠ X) (hX : X < B) : JX w3 Y J jv ∧ OwnR w3 (B ≤ ·) jv J.l := by
  have hl := Blk.lt hj
  exact ⟨Blk.turn hj ht (by omega), ornt ho ht fun k hk hlt hh => by omega⟩
set_option maxHeartbeats 8000000 in
set_option maxRecDepth 100000 in
theorem vsnap_ref (F N : Nat → Prop) (X : Nat) (v : Vt) (la lb lv : Value) (L : List (List UInt8)) (w : World) (h : VX w F X v la lb) (hz : SzV v) (hl : TxA w N lv L) (hL : smallL L) :
    Calls Tryz.prog 16 #[.pointer (some ⟨X, 0, none⟩), lv] w fun e w' => e = .returned (.int .i64 (snapV v L).2) ∧ VXR w F X (snapV v L).1 w' := by
  have hX := h.blk.lt
  have HLY := Lib.hid (lay_ref F N X v la lb lv L w h hl hL hz.n)
  have HLW := Lib.hid (lay_wf v.no L)
  have HLS := Lib.hid (lay_size v.no L hL)
  obtain ⟨E, hE⟩ : ∃ E, E = layE v L := ⟨_, rfl⟩
  have H := Lib.hid h
  have HZ := Lib.hid hz
  clear h hz hl hL
  unfold LayAns at HLY
  rw [← hE] at HLY
  have HEE := Lib.hid hE
  unfold snapV
  rw [← hE]
  clear hE
  unfold jcells at HLY
  by_cases he : E = 0
  case neg =>
    rw [if_pos he]
    have hne : (E == 0) = false := by simpa using he
    have HNE := Lib.hid he
    clear he
    go_enter Tryz.func16, Tryz.ntmps16
    go_wp2_with (go_at_call 39; (with_reducible refine HLY.out.mono ?_); rintro e w1 ⟨J, jl, rfl, _, _, hO1, hb1⟩; obtain ⟨aj, cj, ej⟩ := OwnK.form hO1; rw [List.length_map] at ej; subst ej; have HB1 := Lib.hid hb1; clear hO1 hb1)
    go_ret
    exact ⟨rfl, H.out.same ((HB1.out.trans ((Below.refl w1.heap.size w1).alloc (Nat.le_refl _) _ |>.mono HB1.out.size)))⟩
  rw [if_neg (by rw [he]; simp)]
  subst he
  have HJL := Lib.hid HLY.out
  obtain ⟨J, hJ⟩ : ∃ J, J = layJ v.no L := ⟨_, rfl⟩
  have HLY2 : Hid (Calls Tryz.prog 39 #[.pointer (some ⟨X, 0, none⟩), lv] w fun e w' => ∃ jl, e = .returned (.tuple #[.agg #[.string (oct.tx J.s), .int .i64 (J.k : Int), jl, .int .i64 (J.m : Int)], .int .i64 0]) ∧ OwnR w' (w.heap.size ≤ ·) jl J.l ∧ Below w.heap.size w w') := Lib.hid (HJL.out.mono fun e w' ⟨J1, jl, h1, h2, _, h3, h4⟩ => by
    have e1 : J1 = J := (h2 rfl).trans hJ.symm
    subst e1
    exact ⟨jl, h1, h3, h4⟩)
  rw [← hJ] at HLW HLS ⊢
  obtain ⟨tJ, htJ⟩ : ∃ t, t = oct.tx J.s := ⟨_, rfl⟩
  rw [← htJ] at HLY2
  have HTJ := Lib.hid htJ
  have HU := Lib.hid (sync_use v)
  have HOV := Lib.hid fun (G : Nat → Prop) l1 l2 u (hx : VX u G X v l1 l2) => vsync_ref G X v l1 l2 u hx HZ.out.w HZ.out.u HZ.out.la (by have := HZ.out.sa; omega) HZ.out.lb (by have := HZ.out.sb; omega)
  obtain ⟨v1, hv1⟩ : ∃ x, x = (syncV v).1 := ⟨_, rfl⟩
  rw [← hv1] at HOV HU ⊢
  have HF1 := Lib.hid (sync_files v)
  rw [← hv1] at HF1
  obtain ⟨uu, huu⟩ : ∃ x, x = v.use := ⟨_, rfl⟩
  have huu1 : uu = 0 ∨ uu = 1 := by rw [huu]; exact HZ.out.u
  have HUU := Lib.hid huu
  obtain ⟨J2, hJ2⟩ : ∃ J2, J2 = (syncJ J).1 := ⟨_, rfl⟩
  rw [← hJ2]
  have HS2 := Lib.hid (show J2.s = J.s by rw [hJ2]; rfl)
  have HL2 := Lib.hid (show J2.l = J.l by rw [hJ2]; rfl)
  have HJ2 := Lib.hid hJ2
  clear hJ2
  obtain ⟨v5, hv5⟩ : ∃ x, x = v1.oth J2 := ⟨_, rfl⟩
  rw [← hv5]
  have hu5 := oth_use v1 J2
  rw [HU.out.1, HU.out.2, ← hv5] at hu5
  have HV5 := Lib.hid hv5
  have HU5 := Lib.hid hu5
  clear hv5 hu5
  clear HLY HJL hJ htJ hv1 huu
  go_enter Tryz.func16, Tryz.ntmps16
  go_upto_region 4 with (go_at_call 39; (with_reducible refine HLY2.out.mono ?_); rintro e w1 ⟨jl, rfl, hO1, hb1⟩; obtain ⟨aj, cj, ej⟩ := OwnK.form hO1; rw [List.length_map] at ej; subst ej; have HO1 := Lib.hid hO1; have HB1 := Lib.hid hb1; clear hO1 hb1)
  obtain ⟨Y, hY⟩ : ∃ Y, Y = w1.heap.size := ⟨_, rfl⟩
  have hbY := Blk.at_ hY.symm 29 #[.string tJ, .int .i64 (J.k : Int), .slice aj J.l.length cj, .int .i64 (J.m : Int)]
  have hb2 : Below w1.heap.size w1 (w1.alloc (.cells #[.string tJ, .int .i64 (J.k : Int), .slice aj J.l.length cj, .int .i64 (J.m : Int)] 29)) := (Below.refl _ _).alloc (Nat.le_refl _) _
  obtain ⟨w2, hw2⟩ : ∃ u, u = w1.alloc (.cells #[.string tJ, .int .i64 (J.k : Int), .slice aj J.l.length cj, .int .i64 (J.m : Int)] 29) := ⟨_, rfl⟩
  rw [← hw2] at hbY hb2
  rw [← hw2, ← hY]
  have hB12 : Below w.heap.size w w2 := HB1.out.trans (hb2.mono HB1.out.size)
  have HJX : Hid (JX w2 Y J (.slice aj J.l.length cj)) := Lib.hid (by unfold JX jcells; rw [← HTJ.out]; exact hbY)
  have HOJ : Hid (OwnR w2 (w.heap.size ≤ ·) (.slice aj J.l.length cj) J.l) := Lib.hid (ornx HO1.out hb2)
  have HX2 := Lib.hid (H.out.next hB12)
  have HW2 := Lib.hid hB12
  have hYX : Y ≠ X := by have := HB1.out.size; omega
  have hYge : w.heap.size ≤ Y := by have := HB1.out.size; omega
  have hYlt : Y < w2.heap.size := hbY.lt
  clear hbY hb2 hw2 hY hB12 HO1
  have HSJ := Lib.hid fun u (hj : JX u Y J (.slice aj J.l.length cj)) (ho : OwnR u (w.heap.size ≤ ·) (.slice aj J.l.length cj) J.l) => sync_ref Y J (.slice aj J.l.length cj) u hj (OwnR.rcv ho) (by have := HLS.out; omega) (by have := HLS.out; omega) HLW.out.m
  rw [← HJ2.out] at HSJ
  go_upto_region 5 with (go_at_call 11; (with_reducible refine (HOV.out _ _ _ _ HX2.out).mono ?_); rintro e w3 ⟨rfl, hv3⟩; have HV3 := Lib.hid hv3; clear hv3)
  obtain ⟨l3a, l3b, hx3, ht3⟩ := HV3.out
  obtain ⟨hj3, ho3⟩ := beside HJX.out HOJ.out ht3 hYX hX
  have HX3 := Lib.hid hx3
  have HJ3 := Lib.hid hj3
  have HO3 := Lib.hid ho3
  clear hx3 ht3 hj3 ho3
  go_upto_region 6 with (go_at_call 27; (with_reducible refine (HSJ.out _ HJ3.out HO3.out).mono ?_); rintro e w4 ⟨rfl, hj4, ht4⟩; have HJ4 := Lib.hid hj4; have HT4 := Lib.hid ht4; clear hj4 ht4)
  have HX4 := Lib.hid (HX3.out.turnY HJ3.out HT4.out hYX)
  have HO4 : Hid (OwnR w4 (w.heap.size ≤ ·) (.slice aj J.l.length cj) J2.l) := Lib.hid (by
    rw [HL2.out]
    exact OwnK.turn HO3.out HT4.out fun k hk e => by subst e; exact ownk_ne HO3.out HJ3.out (by decide) hk)
  have hJ4 : Blk w4 Y 29 #[.string tJ, .int .i64 (J2.k : Int), .slice aj J.l.length cj, .int .i64 (J2.m : Int)] := by
    rw [HTJ.out, ← HS2.out]
    exact HJ4.out
  have y0 : w4.cell? ⟨Y, 0, none⟩ = some (.string tJ) := hJ4.cell 0
  have y1 : w4.cell? ⟨Y, 1, none⟩ = some (.int .i64 (J2.k : Int)) := hJ4.cell 1
  have y2 : w4.cell? ⟨Y, 2, none⟩ = some (.slice aj J.l.length cj) := hJ4.cell 2
  have y3 : w4.cell? ⟨Y, 3, none⟩ = some (.int .i64 (J2.m : Int)) := hJ4.cell 3
  have HPT := Lib.hid (put_ref13 (fun k => F k ∨ w2.heap.size ≤ k) (w.heap.size ≤ ·) X v1 l3a l3b (.slice aj J.l.length cj) J2 w4 HX4.out (by rw [HU.out.1, ← HUU.out]; exact huu1) HO4.out (by omega))
  unfold jcells at HPT
  rw [HS2.out, ← HTJ.out] at HPT
  rw [← HV5.out] at HPT
  have HW24 : Hid (w.heap.size ≤ w2.heap.size ∧ w2.heap.size ≤ w3.heap.size ∧ w3.heap.size ≤ w4.heap.size) := Lib.hid ⟨HW2.out.size, (by obtain ⟨_, _, _, hq⟩ := HV3.out; exact hq.size), HT4.out.size⟩
  clear hJ4
  go_upto_region 7 with (go_at_call 40; (with_reducible refine HPT.out.mono ?_); rintro e w5 ⟨rfl, hv6⟩; have HV6 := Lib.hid hv6; clear hv6)
  obtain ⟨l5a, l5b, hx5, ht5⟩ := HV6.out
  have g8 : w5.cell? ⟨X, 8, none⟩ = some (.int .i64 uu) := by have := hx5.blk.cell 8; rw [HUU.out, ← HU5.out.1]; exact this
  have g9 : w5.cell? ⟨X, 9, none⟩ = some (.int .i64 v.no) := by have := hx5.blk.cell 9; rw [← HU5.out.2]; exact this
  have f8 := hx5.blk.frozen 8
  have f9 := hx5.blk.frozen 9
  have HX5 := Lib.hid hx5
  have HT5 := Lib.hid ht5
  obtain ⟨nn, hnn⟩ : ∃ x, x = v.no := ⟨_, rfl⟩
  rw [← hnn] at g9
  have hn0 : 0 ≤ nn ∧ nn < 2147483647 := by
    rw [hnn]
    refine ⟨HZ.out.n, ?_⟩
    by_cases h : 2147483647 ≤ v.no
    · have := HEE.out
      unfold layE at this
      rw [if_pos h] at this
      cases this
    · omega
  have wu : IntKind.i64.wrap (1 - uu) = 1 - uu := by rw [IntKind.wrap_i64]; omega
  have wn : IntKind.i64.wrap (nn + 1) = nn + 1 := by rw [IntKind.wrap_i64]; omega
  have HNN := Lib.hid hnn
  clear hx5 ht5 hnn hn0 y0 y1 y2 y3
  go_wp2_with fail
  go_ret
  have hT : Turn (· = X) w5 ((w5.setCell ⟨X, 8, none⟩ (.int .i64 (1 - uu))).setCell ⟨X, 9, none⟩ (.int .i64 (nn + 1))) := ((Turn.refl (· = X) w5).setCell (p := ⟨X, 8, none⟩) rfl _).setCell (p := ⟨X, 9, none⟩) rfl _
  have hbl := (HX5.out.blk.set_ 8 (.int .i64 (1 - uu))).set_ 9 (.int .i64 (nn + 1))
  obtain ⟨w6, hw6⟩ : ∃ u, u = ((w5.setCell ⟨X, 8, none⟩ (.int .i64 (1 - uu))).setCell ⟨X, 9, none⟩ (.int .i64 (nn + 1))) := ⟨_, rfl⟩
  rw [← hw6] at hT hbl
  rw [← hw6]
  simp only [vcl, List.setIfInBounds_toArray, List.set_cons_zero, List.set_cons_succ] at hbl
  have hs := HW24.out
  have hs5 := HT5.out.size
  refine ⟨rfl, l5a, l5b, ⟨?_, ornp (OwnK.turn HX5.out.a hT fun k hk e => HX5.out.x (e ▸ HX5.out.a.2.2 k hk)) fun k hk => ?_, ornp (OwnK.turn HX5.out.b hT fun k hk e => HX5.out.x (e ▸ HX5.out.b.2.2 k hk)) fun k hk => ?_, H.out.newx⟩, ?_⟩
  · rw [← HUU.out, ← HNN.out]
    exact hbl
  · rcases hk with ((h | h) | h) | h
    · exact .inl h
    · exact .inr (by omega)
    · exact .inr h
    · exact .inr (by omega)
  · rcases hk with ((h | h) | h) | h
    · exact .inl h
    · exact .inr (by omega)
    · exact .inr h
    · exact .inr (by omega)
  · obtain ⟨_, _, _, hq⟩ := HV3.out
    have hYg := hYge
    exact ((((Turn.ofBelow HW2.out).mono fun k hk => .inr hk).trans (hq.mono fun k hk => hk.imp id fun e => by omega)).trans (HT4.out.mono fun k hk => .inr (by omega))).trans ((HT5.out.mono fun k hk => hk.imp id fun e => by omega).trans (hT.mono fun k hk => .inl hk))
set_option maxHeartbeats 8000000 in
set_option maxRecDepth 100000 in
theorem vdie_ref (F N : Nat → Prop) (X : Nat) (v : Vt) (la lb lv : Value) (L : List (List UInt8)) (n : Int) (w : World) (h : VX w F X v la lb) (hz : SzV v) (hl : TxA w N lv L) (hL : smallL L) :
    Calls Tryz.prog 18 #[.pointer (some ⟨X, 0, none⟩), lv, .int .i64 n] w fun e w' => ∃ m, e = .returned (.tuple #[m, .int .i64 (dieV v L n).2.2]) ∧ VXR w F X (dieV v L n).1 w' ∧ OwnT w' (w.heap.size ≤ ·) m (dieV v L n).2.1 := by
  have hX := h.blk.lt
  have HLY := Lib.hid (lay_ref F N X v la lb lv L w h hl hL hz.n)
  have HLW := Lib.hid (lay_wf v.no L)
  have HLS := Lib.hid (lay_size v.no L hL)
  obtain ⟨E, hE⟩ : ∃ E, E = layE v L := ⟨_, rfl⟩
  have H := Lib.hid h
  have HZ := Lib.hid hz
  clear h hz hl hL
  unfold LayAns at HLY
  rw [← hE] at HLY
  have HEE := Lib.hid hE
  unfold dieV
  rw [← hE]
  clear hE
  unfold jcells at HLY
  by_cases he : E = 0
  case neg =>
    rw [if_pos he]
    have hne : (E == 0) = false := by simpa using he
    have HNE := Lib.hid he
    clear he
    go_enter Tryz.func18, Tryz.ntmps18
    go_wp2_with (go_at_call 39; (with_reducible refine HLY.out.mono ?_); rintro e w1 ⟨J, jl, rfl, _, _, hO1, hb1⟩; obtain ⟨aj, cj, ej⟩ := OwnK.form hO1; rw [List.length_map] at ej; subst ej; have HB1 := Lib.hid hb1; clear hO1 hb1)
    refine bodyPost_ret (results_tmp2 rfl _ _ _) rfl ?_
    exact ⟨_, rfl, H.out.same ((HB1.out.trans ((Below.refl w1.heap.size w1).alloc (Nat.le_refl _) _ |>.mono HB1.out.size))), OwnK.nil _ _ _ _⟩
  rw [if_neg (by rw [he]; simp)]
  subst he
  have HJL := Lib.hid HLY.out
  obtain ⟨J, hJ⟩ : ∃ J, J = layJ v.no L := ⟨_, rfl⟩
  have HLY2 : Hid (Calls Tryz.prog 39 #[.pointer (some ⟨X, 0, none⟩), lv] w fun e w' => ∃ jl, e = .returned (.tuple #[.agg #[.string (oct.tx J.s), .int .i64 (J.k : Int), jl, .int .i64 (J.m : Int)], .int .i64 0]) ∧ OwnR w' (w.heap.size ≤ ·) jl J.l ∧ Below w.heap.size w w') := Lib.hid (HJL.out.mono fun e w' ⟨J1, jl, h1, h2, _, h3, h4⟩ => by
    have e1 : J1 = J := (h2 rfl).trans hJ.symm
    subst e1
    exact ⟨jl, h1, h3, h4⟩)
  rw [← hJ] at HLW HLS ⊢
  obtain ⟨tJ, htJ⟩ : ∃ t, t = oct.tx J.s := ⟨_, rfl⟩
  rw [← htJ] at HLY2
  have HTJ := Lib.hid htJ
  have HU := Lib.hid (sync_use v)
  have HOV := Lib.hid fun (G : Nat → Prop) l1 l2 u (hx : VX u G X v l1 l2) => vsync_ref G X v l1 l2 u hx HZ.out.w HZ.out.u HZ.out.la (by have := HZ.out.sa; omega) HZ.out.lb (by have := HZ.out.sb; omega)
  obtain ⟨v1, hv1⟩ : ∃ x, x = (syncV v).1 := ⟨_, rfl⟩
  rw [← hv1] at HOV HU ⊢
  have HF1 := Lib.hid (sync_files v)
  rw [← hv1] at HF1
  obtain ⟨uu, huu⟩ : ∃ x, x = v.use := ⟨_, rfl⟩
  have huu1 : uu = 0 ∨ uu = 1 := by rw [huu]; exact HZ.out.u
  have HUU := Lib.hid huu
  obtain ⟨J2, hJ2⟩ : ∃ J2, J2 = crashJ J n := ⟨_, rfl⟩
  rw [← hJ2]
  have hlen : J2.s.length ≤ 800000 := by
    have := crashJ_len J n HLW.out
    rw [← hJ2] at this
    have := HLS.out
    omega
  have HJ2 := Lib.hid hJ2
  have HLEN := Lib.hid hlen
  clear hJ2 hlen
  obtain ⟨v5, hv5⟩ : ∃ x, x = v1.oth J2 := ⟨_, rfl⟩
  rw [← hv5]
  have hu5 := oth_use v1 J2
  rw [HU.out.1, HU.out.2, ← hv5] at hu5
  have HV5 := Lib.hid hv5
  have HU5 := Lib.hid hu5
  clear hv5 hu5
  have hf5 := oth_files v1 J2 (by rw [HF1.out.1]; exact HZ.out.sa) (by rw [HF1.out.2]; exact HZ.out.sb) HLEN.out
  rw [← HV5.out] at hf5
  have HF5 := Lib.hid hf5
  obtain ⟨AG, hAG⟩ : ∃ x, x = againV v5 := ⟨_, rfl⟩
  have HAG := Lib.hid fun (G : Nat → Prop) l1 l2 u (hx : VX u G X v5 l1 l2) => again_ref G X v5 l1 l2 u hx HF5.out.1 HF5.out.2
  rw [← hAG] at HAG ⊢
  clear hf5 hAG
  clear HLY HJL hJ htJ hv1 huu
  go_enter Tryz.func18, Tryz.ntmps18
  go_upto_region 4 with (go_at_call 39; (with_reducible refine HLY2.out.mono ?_); rintro e w1 ⟨jl, rfl, hO1, hb1⟩; obtain ⟨aj, cj, ej⟩ := OwnK.form hO1; rw [List.length_map] at ej; subst ej; have HO1 := Lib.hid hO1; have HB1 := Lib.hid hb1; clear hO1 hb1)
  obtain ⟨Y, hY⟩ : ∃ Y, Y = w1.heap.size := ⟨_, rfl⟩
  have hbY := Blk.at_ hY.symm 29 #[.string tJ, .int .i64 (J.k : Int), .slice aj J.l.length cj, .int .i64 (J.m : Int)]
  have hb2 : Below w1.heap.size w1 (w1.alloc (.cells #[.string tJ, .int .i64 (J.k : Int), .slice aj J.l.length cj, .int .i64 (J.m : Int)] 29)) := (Below.refl _ _).alloc (Nat.le_refl _) _
  obtain ⟨w2, hw2⟩ : ∃ u, u = w1.alloc (.cells #[.string tJ, .int .i64 (J.k : Int), .slice aj J.l.length cj, .int .i64 (J.m : Int)] 29) := ⟨_, rfl⟩
  rw [← hw2] at hbY hb2
  rw [← hw2, ← hY]
  have hB12 : Below w.heap.size w w2 := HB1.out.trans (hb2.mono HB1.out.size)
  have HJX : Hid (JX w2 Y J (.slice aj J.l.length cj)) := Lib.hid (by unfold JX jcells; rw [← HTJ.out]; exact hbY)
  have HOJ : Hid (OwnR w2 (w.heap.size ≤ ·) (.slice aj J.l.length cj) J.l) := Lib.hid (ornx HO1.out hb2)
  have HX2 := Lib.hid (H.out.next hB12)
  have HW2 := Lib.hid hB12
  have hYX : Y ≠ X := by have := HB1.out.size; omega
  have hYge : w.heap.size ≤ Y := by have := HB1.out.size; omega
  have hYlt : Y < w2.heap.size := hbY.lt
  clear hbY hb2 hw2 hY hB12 HO1
  have HCJ := Lib.hid fun u (hj : JX u Y J (.slice aj J.l.length cj)) => crash_ref Y J (.slice aj J.l.length cj) n u hj HLW.out.k (by have := HLS.out; omega)
  rw [← HJ2.out] at HCJ
  go_upto_region 5 with (go_at_call 11; (with_reducible refine (HOV.out _ _ _ _ HX2.out).mono ?_); rintro e w3 ⟨rfl, hv3⟩; have HV3 := Lib.hid hv3; clear hv3)
  obtain ⟨l3a, l3b, hx3, ht3⟩ := HV3.out
  obtain ⟨hj3, ho3⟩ := beside HJX.out HOJ.out ht3 hYX hX
  have HX3 := Lib.hid hx3
  have HJ3 := Lib.hid hj3
  clear hx3 ht3 hj3 ho3
  go_upto_region 6 with (go_at_call 35; (with_reducible refine (HCJ.out _ HJ3.out).mono ?_); rintro e w4 ⟨v4, rfl, hj4, ho4, ht4⟩; obtain ⟨a4, c4, e4⟩ := OwnK.form ho4; rw [List.length_map] at e4; subst e4; have HJ4 := Lib.hid hj4; have HT4 := Lib.hid ht4; have HO4a := Lib.hid ho4; clear hj4 ht4 ho4)
  have HX4 := Lib.hid (HX3.out.turnY' HJ3.out HT4.out hYX)
  have HW23 : w.heap.size ≤ w3.heap.size := Nat.le_trans HW2.out.size (by obtain ⟨_, _, _, hq⟩ := HV3.out; exact hq.size)
  have HO4 : Hid (OwnR w4 (w.heap.size ≤ ·) (.slice a4 J2.l.length c4) J2.l) := Lib.hid (ornp HO4a.out fun k hk => by omega)
  obtain ⟨tJ2, htJ2⟩ : ∃ t, t = oct.tx J2.s := ⟨_, rfl⟩
  have HTJ2 := Lib.hid htJ2
  clear htJ2
  have hJ4 : Blk w4 Y 29 #[.string tJ2, .int .i64 (J2.k : Int), .slice a4 J2.l.length c4, .int .i64 (J2.m : Int)] := by
    rw [HTJ2.out]
    exact HJ4.out
  have y0 : w4.cell? ⟨Y, 0, none⟩ = some (.string tJ2) := hJ4.cell 0
  have y1 : w4.cell? ⟨Y, 1, none⟩ = some (.int .i64 (J2.k : Int)) := hJ4.cell 1
  have y2 : w4.cell? ⟨Y, 2, none⟩ = some (.slice a4 J2.l.length c4) := hJ4.cell 2
  have y3 : w4.cell? ⟨Y, 3, none⟩ = some (.int .i64 (J2.m : Int)) := hJ4.cell 3
  have HPT := Lib.hid (put_ref13 (fun k => F k ∨ w2.heap.size ≤ k) (w.heap.size ≤ ·) X v1 l3a l3b (.slice a4 J2.l.length c4) J2 w4 HX4.out (by rw [HU.out.1, ← HUU.out]; exact huu1) HO4.out (by omega))
  unfold jcells at HPT
  rw [← HTJ2.out] at HPT
  rw [← HV5.out] at HPT
  have HW24 : Hid (w.heap.size ≤ w2.heap.size ∧ w2.heap.size ≤ w3.heap.size ∧ w3.heap.size ≤ w4.heap.size) := Lib.hid ⟨HW2.out.size, (by obtain ⟨_, _, _, hq⟩ := HV3.out; exact hq.size), HT4.out.size⟩
  clear hJ4
  go_upto_region 7 with (go_at_call 40; (with_reducible refine HPT.out.mono ?_); rintro e w5 ⟨rfl, hv6⟩; have HV6 := Lib.hid hv6; clear hv6)
  obtain ⟨l5a, l5b, hx5, ht5⟩ := HV6.out
  have HX5 := Lib.hid hx5
  have HT5 := Lib.hid ht5
  clear hx5 ht5 y0 y1 y2 y3
  go_wp2_with (go_at_call 36; (with_reducible refine (HAG.out _ _ _ _ HX5.out).mono ?_); rintro e w6 ⟨m6, l6a, l6b, rfl, hx6, hm6, ht6⟩)
  refine bodyPost_ret (results_tmp2 rfl _ _ _) rfl ?_
  have hs := HW24.out
  have hs5 := HT5.out.size
  have hs6 := ht6.size
  refine ⟨_, rfl, ⟨l6a, l6b, ⟨hx6.blk, ornp hx6.a fun k hk => .inr (by omega), ornp hx6.b fun k hk => .inr (by omega), H.out.newx⟩, ?_⟩, OwnK.place hm6 fun k hk => by have := hm6.2.2 k hk; simp only at this ⊢; omega⟩
  obtain ⟨_, _, _, hq⟩ := HV3.out
  have hYg := hYge
  exact ((((Turn.ofBelow HW2.out).mono fun k hk => .inr hk).trans (hq.mono fun k hk => hk.imp id fun e => by omega)).trans (HT4.out.mono fun k hk => .inr (by omega))).trans ((HT5.out.mono fun k hk => hk.imp id fun e => by omega).trans (ht6.mono fun k hk => hk.imp id fun e => by omega))
end Go.Proofs.YtkbbeioednhefaaGreatDoor.vt
