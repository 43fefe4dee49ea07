/-
  The landed vault: loaded again from what its files have; what a snapshot leaves, plainly.
-/
import Derived.Test.YtkbbeioednhefaaDoorVbe
import Derived.Test.YtkbbeioednhefaaDoorVbt
namespace Go.Proofs.YtkbbeioednhefaaDoor.vt
open Go.RowKit Go.Proofs.YtkbbeioednhefaaDoor.mem Go.Proofs.YtkbbeioednhefaaDoor.sha Go.Proofs.YtkbbeioednhefaaDoor.strx Go.Proofs.YtkbbeioednhefaaDoor.rows Go.Proofs.YtkbbeioednhefaaDoor.ids Go.Proofs.YtkbbeioednhefaaDoor.rcd Go.Proofs.YtkbbeioednhefaaDoor.jn Go.Proofs.YtkbbeioednhefaaDoor.txl

theorem Kept.crashed {j : Jr} (h : Kept j) (hj : FileV j) (n : Int) : Kept (crashJ j n) := by
  obtain ⟨G, m, rfl, hG, hm⟩ := hj
  obtain ⟨W, e, h1, h2⟩ := crash_file G hG m hm n
  rw [e]
  show 0 ≤ numV ((G.take W).take W)
  rw [List.take_take, Nat.min_self]
  exact num_take h1 h
theorem Snd.crashed {v : Vt} (h : Snd v) (n : Int) : Snd (v.set (crashJ v.cur n)) := h.set (FileV.crash n) (h.k.crashed h.c n)
theorem oth_oth (v : Vt) (i j : Jr) : (v.oth i).oth j = v.oth j := by
  unfold Vt.oth
  by_cases hu : v.use = 0
  · simp only [if_pos hu]
  · simp only [if_neg hu]
theorem set_len {v : Vt} {j : Jr} (h : smallV v) (hj : j.s.length ≤ 100000) : smallV (v.set j) := by
  unfold Vt.set
  split
  · exact ⟨hj, h.2⟩
  · exact ⟨h.1, hj⟩
theorem oth_len {v : Vt} {j : Jr} (h : smallV v) (hj : j.s.length ≤ 100000) : smallV (v.oth j) := by
  unfold Vt.oth
  split
  · exact ⟨h.1, hj⟩
  · exact ⟨hj, h.2⟩
theorem smallV.cur {v : Vt} (h : smallV v) : v.cur.s.length ≤ 100000 := by
  unfold Vt.cur
  split
  · exact h.1
  · exact h.2
section
variable {G : Nat → Prop} {u : World} {g : Nat} {v : Vt} {pc po bc bo : Value} {A B : Nat → Prop}
/-- load of what the files have -/
theorem again_call (h : VtOf G u g v pc po bc bo A B) (hn : New G u) (hT : crc.Tab u) (hk : 0 ≤ numV (openJ v.cur.s).l) (hs : smallV v) (w4 : World) (hb4 : Below u.heap.size u w4) :
    Calls Tryd.prog 52 #[.pointer (some ⟨g, 0, none⟩), .slice (some ⟨w4.heap.size, 0, none⟩) 2 2] (w4.alloc (.cells #[.string (bt v.a.s), .string (bt v.b.s)] 9)) fun e w' =>
      ∃ m, e = .returned (.tuple #[m, .int .i64 0]) ∧ Left VtL G u (.pointer (some ⟨g, 0, none⟩)) (againV v).1 m (againV v).2 w' := by
  obtain ⟨w5, hw5⟩ : ∃ z, z = w4.alloc (.cells #[.string (bt v.a.s), .string (bt v.b.s)] 9) := ⟨_, rfl⟩
  have hb5 : Below w4.heap.size w4 w5 := by rw [hw5]; exact (Below.refl _ _).alloc (Nat.le_refl _) _
  have hK : Blk w5 w4.heap.size 9 #[.string (bt v.a.s), .string (bt v.b.s)] := by rw [hw5]; exact Blk.new w4 _ _
  rw [← hw5]
  clear hw5
  have hB : Below u.heap.size u w5 := hb4.trans (hb5.mono hb4.size)
  have h5 := h.next hB
  have hgl := h.lt
  have hz4 := hb4.size
  have hz5 := hB.size
  have hL := vload_any g w4.heap.size _ _ _ _ _ (bt v.a.s) (bt v.b.s) (by rw [bt_size]; exact hs.1) (by rw [bt_size]; exact hs.2) w5 (jn_is.next hT hB) h5.blk h.g.2 hK (by omega)
  refine hL.mono ?_
  intro e w' he
  obtain ⟨m, rfl, ht, hr⟩ := he
  rw [bt_list, bt_list] at hr ⊢
  obtain ⟨e1, e2, e3⟩ := Snd.again (v := v) hk
  have htz := ht.size
  have hTG : Turn G u w' := (Turn.fresh hB hn).trans (ht.mono fun k hk => hk.elim (fun e => e ▸ h.g.1) fun e => hn k (by omega))
  rcases hr with ⟨hN, -⟩ | ⟨hN, pa, pb, ba, bb, A2, B2, hb3, ja, jb, ha, hb, hab, hm⟩
  · exact absurd hN (none_of hk)
  refine ⟨m, by rw [e1], fun k => A2 k ∨ B2 k ∨ k = g ∨ w'.heap.size ≤ k, ?_, fun k hk => .inr (.inr (.inr hk)), ?_, ?_, hTG⟩
  · refine VtOf.made (A := A2) (B := B2) (pa := pa) (pb := pb) (ba := ba) (bb := bb) ?_ ?_ ?_ (fun k hk => ⟨.inl hk, by have := (ha k hk).1; omega, (ha k hk).2⟩) (fun k hk => ⟨.inr (.inl hk), by have := (hb k hk).1; omega, (hb k hk).2⟩) hab ⟨.inr (.inr (.inl rfl)), h.g.2⟩ e2
    · rw [e3]; exact hb3
    · rw [e3]; show JnL A2 w' pa ba (pickV _ _).a; rw [pick_a]; exact ja
    · rw [e3]; show JnL B2 w' pb bb (pickV _ _).b; rw [pick_b]; exact jb
  · intro k hk
    rcases hk with hk | hk | hk | hk
    · exact hn k (by have := (ha k hk).1; omega)
    · exact hn k (by have := (hb k hk).1; omega)
    · exact hk ▸ h.g.1
    · exact hn k (by omega)
  · rw [e3]
    refine (OwnT.txa hm).mono fun k hk hx => ⟨hn k (by omega), fun hh => ?_⟩
    rcases hh with hh | hh | hh | hh
    · exact hx.2.1 hh
    · exact hx.2.2 hh
    · omega
    · omega
end
/-! A snapshot is the file in use. -/
theorem lay_len (no : Int) (L : List (List UInt8)) (hL : smallL L) : (layJ no L).s.length ≤ 20000 := by
  have h := jat_size no L hL.2 L.length (Nat.le_refl _)
  have h1 := hL.1
  rw [jat_all]
  have := appJ_grow (jat no L L.length) sealR
  have h2 : sealR.body.length = 0 := rfl
  omega
theorem layE_big {v : Vt} (h : 2147483647 ≤ v.no) (L : List (List UInt8)) : layE v L = 3 := by unfold layE; rw [if_pos h]
theorem layE_ok {v : Vt} (h : v.no < 2147483647) {L : List (List UInt8)} (hL : smallL L) : layE v L = 0 := layE_zero h fun s hs => Nat.le_trans (hL.2 s hs) (by decide)
def snapped (v : Vt) (j : Jr) (u n : Int) : Vt := { v.oth j with use := u, no := n }
theorem snap_cur {v : Vt} {j : Jr} {n : Int} (hu : v.use = 0 ∨ v.use = 1) : (snapped v j (1 - v.use) n).cur = j ∧ (snapped v j (1 - v.use) n).othr = v.cur := by
  unfold snapped Vt.oth Vt.cur Vt.othr
  rcases hu with e | e
  · simp [e]
  · simp [e]
theorem snapV_ok {v : Vt} {L : List (List UInt8)} (h : layE v L = 0) : snapV v L = (snapped (syncV v).1 (syncJ (layJ v.no L)).1 (1 - v.use) (v.no + 1), 0) := by
  unfold snapV
  rw [if_neg (by rw [h]; exact fun h => h rfl)]
  rfl
theorem Snd.snap {v : Vt} (h : Snd v) (hno : v.no < 2147483647) {L : List (List UInt8)} (hL : smallL L) : Snd (snapped (syncV v).1 (syncJ (layJ v.no L)).1 (1 - v.use) (v.no + 1)) := by
  have hs : ∀ s ∈ L, s.length ≤ 1048576 := fun s hs => Nat.le_trans (hL.2 s hs) (by decide)
  have hu : (syncV v).1.use = v.use := use_set _ _
  have hc := snap_cur (v := (syncV v).1) (j := (syncJ (layJ v.no L)).1) (n := v.no + 1) h.sync.use
  have hn := h.no
  rw [hu] at hc
  refine ⟨by rw [hc.1]; exact (lay_v v.no L hs).sync, by rw [hc.2]; exact h.sync.c, by rw [hc.1]; exact lay_kept v.no (by omega) (by omega) L hs, ?_, ?_⟩
  · show 1 - v.use = 0 ∨ 1 - v.use = 1
    have := h.use
    omega
  · show 0 ≤ v.no + 1 ∧ v.no + 1 < 4294967296
    omega
end Go.Proofs.YtkbbeioednhefaaDoor.vt
