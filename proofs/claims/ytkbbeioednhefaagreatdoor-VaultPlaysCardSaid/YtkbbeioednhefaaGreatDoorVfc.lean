/-
  petrelref13.again: the plain Vault in block X, its lists elsewhere.
-/
import Derived.Test.YtkbbeioednhefaaGreatDoorVfb
import Derived.Test.YtkbbeioednhefaaGreatDoorVjb
namespace Go.Proofs.YtkbbeioednhefaaGreatDoor.vt
open Go.RowKit Go.Proofs.YtkbbeioednhefaaGreatDoor.mem Go.Proofs.YtkbbeioednhefaaGreatDoor.sha Go.Proofs.YtkbbeioednhefaaGreatDoor.strx Go.Proofs.YtkbbeioednhefaaGreatDoor.rows Go.Proofs.YtkbbeioednhefaaGreatDoor.ids Go.Proofs.YtkbbeioednhefaaGreatDoor.rcd Go.Proofs.YtkbbeioednhefaaGreatDoor.jn Go.Proofs.YtkbbeioednhefaaGreatDoor.txl

/-- the plain Vault in block X, its lists in blocks of F -/
structure VX (w : World) (F : Nat → Prop) (X : Nat) (v : Vt) (la lb : Value) : Prop where
  blk : Blk w X 31 (vcl v la lb)
  a : OwnR w F la v.a.l
  b : OwnR w F lb v.b.l
  x : ¬ F X
theorem ownk_ne {w : World} {F : Nat → Prop} {e : TypeId} {c : Nat} {v : Value} {xs : List (List Value)} {g : Nat} {t : TypeId} {cs : Array Value} (h : OwnK w F e c v xs) (hg : Blk w g t cs) (hne : e ≠ t) : v.ownBlock ≠ some g := by
  rcases h.2.1.2 with ⟨rfl, _⟩ | ⟨g', cap, cur, rfl, _, hh, _⟩
  · simp [Value.ownBlock]
  · intro he
    have : g' = g := by simpa [Value.ownBlock] using he
    subst this
    unfold Blk at hg
    rw [hg] at hh
    injection hh with hh
    injection hh with _ ht
    exact hne ht.symm
theorem ornt {w w' : World} {F G : Nat → Prop} {v : Value} {L : List Rc} (h : OwnR w F v L) (ht : Turn G w w') (hg : ∀ k, F k → k < w.heap.size → ¬ G k) : OwnR w' F v L :=
  OwnK.turn h ht fun k hk => hg k (h.2.2 k hk) (OwnK.lt h hk)
theorem ornp {w : World} {F G : Nat → Prop} {v : Value} {L : List Rc} (h : OwnR w F v L) (hg : ∀ k, F k → G k) : OwnR w G v L := OwnK.place h fun k hk => hg k (h.2.2 k hk)
theorem VX.next {w w' : World} {F : Nat → Prop} {X : Nat} {v : Vt} {la lb : Value} (h : VX w F X v la lb) (hb : Below w.heap.size w w') : VX w' F X v la lb :=
  ⟨h.blk.below hb h.blk.lt, ornx h.a hb, ornx h.b hb, h.x⟩
theorem want_alloc_vt {ops : Array Oper} {o : Oper} {a : Act} {w : World} {K : Act → World → Prop} {Q : Exit → Act → World → Prop} {E : Prop} (hg : o.guard = none) (ho : o.op = .alloc 31)
    (hK : K (a.put o.dst (.pointer (some ⟨w.heap.size, 0, none⟩))) (w.alloc (.cells zvcl 31))) : if Region.wanted o (yielded ops a.tmps) = true then Oper.wp Tryz.prog o a w K Q else E := by
  have hw : Region.wanted o (yielded ops a.tmps) = true := by simp [Region.wanted, hg]
  rw [if_pos hw]
  have hz : ∀ w, (zeroValue 31).run Tryz.prog w = .ok (.agg zvcl) w := fun w => by kernel_rfl
  unfold Oper.wp execOp
  simp [ho, Instr.alloc, hz, newVar]
  exact hK
/-- Load's answer, written out -/
theorem load_lit (s t : ByteArray) (hs : s.size ≤ 800000) (ht : t.size ≤ 800000) (V : Vt) (M : List (List UInt8)) (f : Int) (hV : loadV s.data.toList t.data.toList = (V, M, f)) (t1 t2 : ByteArray) (h1 : t1 = oct.tx V.a.s) (h2 : t2 = oct.tx V.b.s) (n1 n2 : Nat) (h3 : n1 = V.a.l.length) (h4 : n2 = V.b.l.length) (w : World) :
    Calls Tryz.prog 22 #[.string s, .string t] w fun e w' => ∃ a1 c1 a2 c2 m, e = .returned (.tuple #[.agg #[.string t1, .int .i64 (V.a.k : Int), .slice a1 n1 c1, .int .i64 (V.a.m : Int), .string t2, .int .i64 (V.b.k : Int), .slice a2 n2 c2, .int .i64 (V.b.m : Int), .int .i64 V.use, .int .i64 V.no], m, .int .i64 f]) ∧
      OwnR w' (w.heap.size ≤ ·) (.slice a1 n1 c1) V.a.l ∧ OwnR w' (w.heap.size ≤ ·) (.slice a2 n2 c2) V.b.l ∧ OwnT w' (w.heap.size ≤ ·) m M ∧ Below w.heap.size w w' := by
  refine (load_ref s t hs ht w).mono ?_
  rintro e w' ⟨la, lb, m, he, hA, hB, hM, hb⟩
  obtain ⟨a1, c1, e1⟩ := OwnK.form hA
  obtain ⟨a2, c2, e2⟩ := OwnK.form hB
  rw [List.length_map] at e1 e2
  subst e1 e2
  rw [hV] at he hA hB hM
  refine ⟨a1, c1, a2, c2, m, ?_, by rw [h3]; exact hA, by rw [h4]; exact hB, hM, hb⟩
  rw [he, h1, h2, h3, h4]
  rfl
set_option maxHeartbeats 8000000 in
set_option maxRecDepth 100000 in
theorem again_ref (F : Nat → Prop) (X : Nat) (v : Vt) (la lb : Value) (w : World) (h : VX w F X v la lb) (hs : v.a.s.length ≤ 800000) (ht : v.b.s.length ≤ 800000) :
    Calls Tryz.prog 36 #[.pointer (some ⟨X, 0, none⟩)] w fun e w' => ∃ m la' lb', e = .returned m ∧ VX w' (w.heap.size ≤ ·) X (againV v).1 la' lb' ∧ OwnT w' (w.heap.size ≤ ·) m (againV v).2 ∧ Turn (fun k => k = X ∨ w.heap.size ≤ k) w w' := by
  have hX := h.blk.lt
  obtain ⟨ta, hta⟩ : ∃ x, x = oct.tx v.a.s := ⟨_, rfl⟩
  obtain ⟨tb, htb⟩ : ∃ x, x = oct.tx v.b.s := ⟨_, rfl⟩
  have hla : ta.data.toList = v.a.s := by rw [hta, oct.tx_list]
  have hlb : tb.data.toList = v.b.s := by rw [htb, oct.tx_list]
  obtain ⟨V, M, f, hV⟩ : ∃ V M f, loadV v.a.s v.b.s = (V, M, f) := ⟨_, _, _, rfl⟩
  have hag : againV v = (V, M) := by
    have : againV v = ((loadV v.a.s v.b.s).1, (loadV v.a.s v.b.s).2.1) := rfl
    rw [this, hV]
  obtain ⟨t1, h1⟩ : ∃ x, x = oct.tx V.a.s := ⟨_, rfl⟩
  obtain ⟨t2, h2⟩ : ∃ x, x = oct.tx V.b.s := ⟨_, rfl⟩
  obtain ⟨n1, h3⟩ : ∃ x, x = V.a.l.length := ⟨_, rfl⟩
  obtain ⟨n2, h4⟩ : ∃ x, x = V.b.l.length := ⟨_, rfl⟩
  have HLO := Lib.hid fun u => load_lit ta tb (by rw [hta, oct.tx_size]; exact hs) (by rw [htb, oct.tx_size]; exact ht) V M f (by rw [hla, hlb]; exact hV) t1 t2 h1 h2 n1 n2 h3 h4 u
  have HT1 := Lib.hid h1
  have HT2 := Lib.hid h2
  have HN1 := Lib.hid h3
  have HN2 := Lib.hid h4
  have c0 : w.cell? ⟨X, 0, none⟩ = some (.string ta) := by rw [hta]; exact h.blk.cell 0
  have c4 : w.cell? ⟨X, 4, none⟩ = some (.string tb) := by rw [htb]; exact h.blk.cell 4
  have H := Lib.hid h
  rw [hag]
  clear hta htb hla hlb h hs ht hag hV h1 h2 h3 h4
  go_enter Tryz.func36, Tryz.ntmps36
  go_upto_region 1 with fail
  go_cut [3, 4] from 5 to 22 (fun s3 s4 wx => ∃ (Y : Nat) (la' lb' : Value), s3 = .pointer (some ⟨Y, 0, none⟩) ∧ w.heap.size ≤ Y ∧ Hid (Blk wx Y 31 (vcl V la' lb') ∧ Blk wx X 31 (vcl v la lb) ∧ OwnR wx (w.heap.size ≤ ·) la' V.a.l ∧ OwnR wx (w.heap.size ≤ ·) lb' V.b.l ∧ OwnT wx (w.heap.size ≤ ·) s4 M ∧ Below w.heap.size w wx))
  case first =>
    obtain ⟨u, hu⟩ : ∃ u, u = w.drew := ⟨_, rfl⟩
    have hbu : Below w.heap.size w u := by rw [hu]; exact (Below.refl _ _).drew
    have Hu := Lib.hid (H.out.next hbu)
    have hsu : u.heap.size = w.heap.size := by rw [hu]; rfl
    have c0u : u.cell? ⟨X, 0, none⟩ = some (.string ta) := by rw [hu]; exact c0
    have c4u : u.cell? ⟨X, 4, none⟩ = some (.string tb) := by rw [hu]; exact c4
    have hbA : Below u.heap.size u (u.alloc (.cells zvcl 31)) := (Below.refl _ _).alloc (Nat.le_refl _) _
    have HuA := Lib.hid (Hu.out.next hbA)
    have hYA := Blk.new u 31 zvcl
    obtain ⟨uA, huA⟩ : ∃ x, x = u.alloc (.cells zvcl 31) := ⟨_, rfl⟩
    rw [← huA] at hbA HuA hYA
    have c0A : uA.cell? ⟨X, 0, none⟩ = some (.string ta) := (hbA.cell (p := ⟨X, 0, none⟩) (by show X < u.heap.size; omega)).trans c0u
    have c4A : uA.cell? ⟨X, 4, none⟩ = some (.string tb) := (hbA.cell (p := ⟨X, 4, none⟩) (by show X < u.heap.size; omega)).trans c4u
    have HBU := Lib.hid hbu
    have HSU := Lib.hid hsu
    have HBA := Lib.hid hbA
    have HYA := Lib.hid hYA
    have HUA := Lib.hid huA
    have HFIN : Hid (∀ (z : World) (Y a1' n1' : Nat) (a1 a2 : Option Addr) (c1 c2 : Nat) (m : Value), Below w.heap.size w z → Blk z Y 31 zvcl → w.heap.size ≤ Y → VX z F X v la lb → OwnR z (w.heap.size ≤ ·) (.slice a1 n1 c1) V.a.l → OwnR z (w.heap.size ≤ ·) (.slice a2 n2 c2) V.b.l → OwnT z (w.heap.size ≤ ·) m M →
        (Instr.storeAt 31 (.pointer (some ⟨Y, 0, none⟩)) (.agg #[.string t1, .int .i64 (V.a.k : Int), .slice a1 n1 c1, .int .i64 (V.a.m : Int), .string t2, .int .i64 (V.b.k : Int), .slice a2 n2 c2, .int .i64 (V.b.m : Int), .int .i64 V.use, .int .i64 V.no])).run Tryz.prog z = .ok () (z.setRow Y (vcl V (.slice a1 n1 c1) (.slice a2 n2 c2))) ∧
        (Blk (z.setRow Y (vcl V (.slice a1 n1 c1) (.slice a2 n2 c2))) Y 31 (vcl V (.slice a1 n1 c1) (.slice a2 n2 c2)) ∧ Blk (z.setRow Y (vcl V (.slice a1 n1 c1) (.slice a2 n2 c2))) X 31 (vcl v la lb) ∧ OwnR (z.setRow Y (vcl V (.slice a1 n1 c1) (.slice a2 n2 c2))) (w.heap.size ≤ ·) (.slice a1 n1 c1) V.a.l ∧ OwnR (z.setRow Y (vcl V (.slice a1 n1 c1) (.slice a2 n2 c2))) (w.heap.size ≤ ·) (.slice a2 n2 c2) V.b.l ∧ OwnT (z.setRow Y (vcl V (.slice a1 n1 c1) (.slice a2 n2 c2))) (w.heap.size ≤ ·) m M ∧ Below w.heap.size w (z.setRow Y (vcl V (.slice a1 n1 c1) (.slice a2 n2 c2))))) := Lib.hid fun z Y _ _ a1 a2 c1 c2 m hb hY hwY hV hA hB hM => by
      have hrt := row_turn z Y (vcl V (.slice a1 n1 c1) (.slice a2 n2 c2))
      have hst := store_blk (ty := 31) (cs := vcl V (.slice a1 n1 c1) (.slice a2 n2 c2)) hY (by rw [info_vt]; rfl) rfl (vcl_one rfl rfl)
      refine ⟨?_, setRow_heap _ _ _ _ _ _ hY, Blk.turn hV.blk hrt (by omega), OwnK.turn hA hrt fun k hk e => ?_, OwnK.turn hB hrt fun k hk e => ?_, OwnK.turn hM hrt fun k hk e => ?_, hb.trans (hrt.below fun k hk => by omega)⟩
      · rw [HT1.out, HT2.out]
        exact hst
      · subst e
        exact ownk_ne hA hY (by decide) hk
      · subst e
        exact ownk_ne hB hY (by decide) hk
      · subst e
        exact ownk_ne hM hY (by decide) hk
    refine wp_region_any (by kernel_rfl) (show wpAny Tryz.prog _ _ _ _ _ _ w.drew from ?_)
    rw [← hu]
    clear hu huA c0 c4 hbu hbA hYA hsu
    refine' wpAny_take (i := 0) ?hivc1 (by kernel_rfl) (by kernel_rfl) (by kernel_rfl) ?hqvc1 (Or.inl ⟨?hwvc1, ?hyvc1⟩) ?hrvc1
    case hivc1 => (simp only [List.getElem?_toArray, List.getElem?_cons_succ, List.getElem?_cons_zero]; rfl)
    case hqvc1 => exact fun _ _ _ h => h
    case hwvc1 => rfl
    case hyvc1 => (intro w0; go_simp; try with_reducible rfl)
    (try simp only [Act.put, List.setIfInBounds_toArray, List.set_cons_zero, List.set_cons_succ])
    refine' wpAny_take (i := 1) ?hivc2 (by kernel_rfl) (by kernel_rfl) (by kernel_rfl) ?hqvc2 (Or.inl ⟨?hwvc2, ?hyvc2⟩) ?hrvc2
    case hivc2 => (simp only [List.getElem?_toArray, List.getElem?_cons_succ, List.getElem?_cons_zero]; rfl)
    case hqvc2 => exact fun _ _ _ h => h
    case hwvc2 => rfl
    case hyvc2 => (intro w0; go_simp; try with_reducible rfl)
    (try simp only [Act.put, List.setIfInBounds_toArray, List.set_cons_zero, List.set_cons_succ])
    refine' wpAny_take (i := 2) ?hivc3 (by kernel_rfl) (by kernel_rfl) (by kernel_rfl) ?hqvc3 (Or.inl ⟨?hwvc3, ?hyvc3⟩) ?hrvc3
    case hivc3 => (simp only [List.getElem?_toArray, List.getElem?_cons_succ, List.getElem?_cons_zero]; rfl)
    case hqvc3 => exact fun _ _ _ h => h
    case hwvc3 => rfl
    case hyvc3 => (intro w0; go_simp; try with_reducible rfl)
    (try simp only [Act.put, List.setIfInBounds_toArray, List.set_cons_zero, List.set_cons_succ])
    refine' wpAny_take (i := 3) ?hivc4 (by kernel_rfl) (by kernel_rfl) (by kernel_rfl) ?hqvc4 (Or.inl ⟨?hwvc4, ?hyvc4⟩) ?hrvc4
    case hivc4 => (simp only [List.getElem?_toArray, List.getElem?_cons_succ, List.getElem?_cons_zero]; rfl)
    case hqvc4 => exact fun _ _ _ h => h
    case hwvc4 => rfl
    case hyvc4 => (intro w0; go_simp; try with_reducible rfl)
    (try simp only [Act.put, List.setIfInBounds_toArray, List.set_cons_zero, List.set_cons_succ])
    refine' wpAny_take (i := 4) ?hivc5 (by kernel_rfl) (by kernel_rfl) (by kernel_rfl) ?hqvc5 (Or.inl ⟨?hwvc5, ?hyvc5⟩) ?hrvc5
    case hivc5 => (simp only [List.getElem?_toArray, List.getElem?_cons_succ, List.getElem?_cons_zero]; rfl)
    case hqvc5 => exact fun _ _ _ h => h
    case hwvc5 => rfl
    case hyvc5 => (intro w0; go_simp; try with_reducible rfl)
    (try simp only [Act.put, List.setIfInBounds_toArray, List.set_cons_zero, List.set_cons_succ])
    refine' wpAny_take (i := 6) ?hivc6 (by kernel_rfl) (by kernel_rfl) (by kernel_rfl) ?hqvc6 (Or.inl ⟨?hwvc6, ?hyvc6⟩) ?hrvc6
    case hivc6 => (simp only [List.getElem?_toArray, List.getElem?_cons_succ, List.getElem?_cons_zero]; rfl)
    case hqvc6 => exact fun _ _ _ h => h
    case hwvc6 => rfl
    case hyvc6 => (intro w0; go_simp; try with_reducible rfl)
    (try simp only [Act.put, List.setIfInBounds_toArray, List.set_cons_zero, List.set_cons_succ])
    refine' wpAny_take (i := 7) ?hivc7 (by kernel_rfl) (by kernel_rfl) (by kernel_rfl) ?hqvc7 (Or.inl ⟨?hwvc7, ?hyvc7⟩) ?hrvc7
    case hivc7 => (simp only [List.getElem?_toArray, List.getElem?_cons_succ, List.getElem?_cons_zero]; rfl)
    case hqvc7 => exact fun _ _ _ h => h
    case hwvc7 => rfl
    case hyvc7 => (intro w0; go_simp; try with_reducible rfl)
    (try simp only [Act.put, List.setIfInBounds_toArray, List.set_cons_zero, List.set_cons_succ])
    refine' wpAny_take (i := 8) ?hivc8 (by kernel_rfl) (by kernel_rfl) (by kernel_rfl) ?hqvc8 (Or.inl ⟨?hwvc8, ?hyvc8⟩) ?hrvc8
    case hivc8 => (simp only [List.getElem?_toArray, List.getElem?_cons_succ, List.getElem?_cons_zero]; rfl)
    case hqvc8 => exact fun _ _ _ h => h
    case hwvc8 => rfl
    case hyvc8 => (intro w0; go_simp; try with_reducible rfl)
    (try simp only [Act.put, List.setIfInBounds_toArray, List.set_cons_zero, List.set_cons_succ])
    refine' wpAny_take (i := 9) ?hivc9 (by kernel_rfl) (by kernel_rfl) (by kernel_rfl) ?hqvc9 (Or.inl ⟨?hwvc9, ?hyvc9⟩) ?hrvc9
    case hivc9 => (simp only [List.getElem?_toArray, List.getElem?_cons_succ, List.getElem?_cons_zero]; rfl)
    case hqvc9 => exact fun _ _ _ h => h
    case hwvc9 => rfl
    case hyvc9 => (intro w0; go_simp; try with_reducible rfl)
    (try simp only [Act.put, List.setIfInBounds_toArray, List.set_cons_zero, List.set_cons_succ])
    refine' wpAny_take (i := 10) ?hivc10 (by kernel_rfl) (by kernel_rfl) (by kernel_rfl) ?hqvc10 (Or.inl ⟨?hwvc10, ?hyvc10⟩) ?hrvc10
    case hivc10 => (simp only [List.getElem?_toArray, List.getElem?_cons_succ, List.getElem?_cons_zero]; rfl)
    case hqvc10 => exact fun _ _ _ h => h
    case hwvc10 => rfl
    case hyvc10 => (intro w0; go_simp; try with_reducible rfl)
    (try simp only [Act.put, List.setIfInBounds_toArray, List.set_cons_zero, List.set_cons_succ])
    refine wpAny_ready (rs := [5, 11, 17]) (by kernel_rfl) (by simp) ?_
    refine' AllReady.cons ?hivc11_5 (fun K hK => ?hrvc11_5) (AllReady.cons ?hivc11_11 (fun K hK => ?hrvc11_11) (AllReady.cons ?hivc11_17 (fun K hK => ?hrvc11_17) AllReady.nil))
    case hivc11_5 => (simp only [List.getElem?_toArray, List.getElem?_cons_succ, List.getElem?_cons_zero]; rfl)
    case hivc11_11 => (simp only [List.getElem?_toArray, List.getElem?_cons_succ, List.getElem?_cons_zero]; rfl)
    case hivc11_17 => (simp only [List.getElem?_toArray, List.getElem?_cons_succ, List.getElem?_cons_zero]; rfl)
    case hrvc11_5 =>
      go_simp
      refine hK _ _ ?_
      clear hK K
      (try simp only [Act.put, List.setIfInBounds_toArray, List.set_cons_zero, List.set_cons_succ])
      refine wpAny_ready (rs := [11, 17]) (by kernel_rfl) (by simp) ?_
      refine' AllReady.cons ?hivc12_11 (fun K hK => ?hrvc12_11) (AllReady.cons ?hivc12_17 (fun K hK => ?hrvc12_17) AllReady.nil)
      case hivc12_11 => (simp only [List.getElem?_toArray, List.getElem?_cons_succ, List.getElem?_cons_zero]; rfl)
      case hivc12_17 => (simp only [List.getElem?_toArray, List.getElem?_cons_succ, List.getElem?_cons_zero]; rfl)
      case hrvc12_11 =>
        go_simp
        refine hK _ _ ?_
        clear hK K
        (try simp only [Act.put, List.setIfInBounds_toArray, List.set_cons_zero, List.set_cons_succ])
        refine wpAny_ready (rs := [12, 17]) (by kernel_rfl) (by simp) ?_
        refine' AllReady.cons ?hivc13_12 (fun K hK => ?hrvc13_12) (AllReady.cons ?hivc13_17 (fun K hK => ?hrvc13_17) AllReady.nil)
        case hivc13_12 => (simp only [List.getElem?_toArray, List.getElem?_cons_succ, List.getElem?_cons_zero]; rfl)
        case hivc13_17 => (simp only [List.getElem?_toArray, List.getElem?_cons_succ, List.getElem?_cons_zero]; rfl)
        case hrvc13_12 =>
          go_simp
          (refine (HLO.out _).mono ?_; rintro e w2 ⟨a1, c1, a2, c2, m2, rfl, hA2, hB2, hM2, hb2⟩)
          refine hK _ _ ?_
          clear hK K
          (try simp only [Act.put, List.setIfInBounds_toArray, List.set_cons_zero, List.set_cons_succ])
          refine' wpAny_take (i := 13) ?hivc14 (by kernel_rfl) (by kernel_rfl) (by kernel_rfl) ?hqvc14 (Or.inl ⟨?hwvc14, ?hyvc14⟩) ?hrvc14
          case hivc14 => (simp only [List.getElem?_toArray, List.getElem?_cons_succ, List.getElem?_cons_zero]; rfl)
          case hqvc14 => exact fun _ _ _ h => h
          case hwvc14 => rfl
          case hyvc14 => (intro w0; go_simp; try with_reducible rfl)
          (try simp only [Act.put, List.setIfInBounds_toArray, List.set_cons_zero, List.set_cons_succ])
          refine' wpAny_take (i := 14) ?hivc15 (by kernel_rfl) (by kernel_rfl) (by kernel_rfl) ?hqvc15 (Or.inl ⟨?hwvc15, ?hyvc15⟩) ?hrvc15
          case hivc15 => (simp only [List.getElem?_toArray, List.getElem?_cons_succ, List.getElem?_cons_zero]; rfl)
          case hqvc15 => exact fun _ _ _ h => h
          case hwvc15 => rfl
          case hyvc15 => (intro w0; go_simp; try with_reducible rfl)
          (try simp only [Act.put, List.setIfInBounds_toArray, List.set_cons_zero, List.set_cons_succ])
          refine' wpAny_take (i := 15) ?hivc16 (by kernel_rfl) (by kernel_rfl) (by kernel_rfl) ?hqvc16 (Or.inl ⟨?hwvc16, ?hyvc16⟩) ?hrvc16
          case hivc16 => (simp only [List.getElem?_toArray, List.getElem?_cons_succ, List.getElem?_cons_zero]; rfl)
          case hqvc16 => exact fun _ _ _ h => h
          case hwvc16 => rfl
          case hyvc16 => (intro w0; go_simp; try with_reducible rfl)
          (try simp only [Act.put, List.setIfInBounds_toArray, List.set_cons_zero, List.set_cons_succ])
          refine' wpAny_take (i := 16) ?hivc17 (by kernel_rfl) (by kernel_rfl) (by kernel_rfl) ?hqvc17 (Or.inl ⟨?hwvc17, ?hyvc17⟩) ?hrvc17
          case hivc17 => (simp only [List.getElem?_toArray, List.getElem?_cons_succ, List.getElem?_cons_zero]; rfl)
          case hqvc17 => exact fun _ _ _ h => h
          case hwvc17 => rfl
          case hyvc17 => (intro w0; go_simp; try with_reducible rfl)
          (try simp only [Act.put, List.setIfInBounds_toArray, List.set_cons_zero, List.set_cons_succ])
          refine wpAny_ready (rs := [17]) (by kernel_rfl) (by simp) ?_
          refine' AllReady.cons ?hivc18_17 (fun K hK => ?hrvc18_17) AllReady.nil
          case hivc18_17 => (simp only [List.getElem?_toArray, List.getElem?_cons_succ, List.getElem?_cons_zero]; rfl)
          case hrvc18_17 =>
            refine want_alloc_vt rfl rfl (hK _ _ ?_)
            clear hK K
            (try simp only [Act.put, List.setIfInBounds_toArray, List.set_cons_zero, List.set_cons_succ])
            refine wpAny_ready (rs := [18]) (by kernel_rfl) (by simp) ?_
            refine' AllReady.cons ?hivc19 (fun K hK => ?hrvc19) AllReady.nil
            case hivc19 => (simp only [List.getElem?_toArray, List.getElem?_cons_succ, List.getElem?_cons_zero]; rfl)
            have h2 : Below w2.heap.size w2 (w2.alloc (.cells zvcl 31)) := (Below.refl _ _).alloc (Nat.le_refl _) _
            have hz : Below u.heap.size u (w2.alloc (.cells zvcl 31)) := hb2.trans (h2.mono hb2.size)
            have hf := HFIN.out (w2.alloc (.cells zvcl 31)) w2.heap.size 0 0 a1 a2 c1 c2 m2 (HBU.out.trans (hz.mono (Nat.le_of_eq HSU.out.symm))) (Blk.new w2 _ _) (by have := hb2.size; have := HSU.out; omega) ((Hu.out.next hb2).next h2) (ornx (ornp hA2 fun k hk => by have := HSU.out; omega) h2) (ornx (ornp hB2 fun k hk => by have := HSU.out; omega) h2) (OwnK.next (OwnK.place hM2 fun k hk => by have a := hM2.2.2 k hk; have := HSU.out; simp only at a ⊢; omega) h2)
            have HF := Lib.hid hf.2
            refine want_store_run rfl rfl rfl rfl hf.1 (hK _ _ ?_)
            clear hf
            clear hK K
            (try simp only [Act.put, List.setIfInBounds_toArray, List.set_cons_zero, List.set_cons_succ])
            refine' wpAny_take (i := 19) ?hivc20 (by kernel_rfl) (by kernel_rfl) (by kernel_rfl) ?hqvc20 (Or.inl ⟨?hwvc20, ?hyvc20⟩) ?hrvc20
            case hivc20 => (simp only [List.getElem?_toArray, List.getElem?_cons_succ, List.getElem?_cons_zero]; rfl)
            case hqvc20 => exact fun _ _ _ h => h
            case hwvc20 => rfl
            case hyvc20 => (intro w0; go_simp; try with_reducible rfl)
            (try simp only [Act.put, List.setIfInBounds_toArray, List.set_cons_zero, List.set_cons_succ])
            refine' wpAny_take (i := 20) ?hivc21 (by kernel_rfl) (by kernel_rfl) (by kernel_rfl) ?hqvc21 (Or.inl ⟨?hwvc21, ?hyvc21⟩) ?hrvc21
            case hivc21 => (simp only [List.getElem?_toArray, List.getElem?_cons_succ, List.getElem?_cons_zero]; rfl)
            case hqvc21 => exact fun _ _ _ h => h
            case hwvc21 => rfl
            case hyvc21 => (intro w0; go_simp; try with_reducible rfl)
            (try simp only [Act.put, List.setIfInBounds_toArray, List.set_cons_zero, List.set_cons_succ])
            refine wpAny_done (by kernel_rfl) ?_ _
            go_wp2_with fail
            go_meet
            exact ⟨_, _, _, rfl, by have := hb2.size; have := HSU.out; omega, HF⟩
        case hrvc13_17 =>
          refine want_alloc_vt rfl rfl (hK _ _ ?_)
          rw [← HUA.out]
          clear hK K
          (try simp only [Act.put, List.setIfInBounds_toArray, List.set_cons_zero, List.set_cons_succ])
          refine wpAny_ready (rs := [12]) (by kernel_rfl) (by simp) ?_
          refine' AllReady.cons ?hivc22_12 (fun K hK => ?hrvc22_12) AllReady.nil
          case hivc22_12 => (simp only [List.getElem?_toArray, List.getElem?_cons_succ, List.getElem?_cons_zero]; rfl)
          case hrvc22_12 =>
            go_simp
            (refine (HLO.out _).mono ?_; rintro e w2 ⟨a1, c1, a2, c2, m2, rfl, hA2, hB2, hM2, hb2⟩)
            refine hK _ _ ?_
            clear hK K
            (try simp only [Act.put, List.setIfInBounds_toArray, List.set_cons_zero, List.set_cons_succ])
            refine' wpAny_take (i := 13) ?hivc23 (by kernel_rfl) (by kernel_rfl) (by kernel_rfl) ?hqvc23 (Or.inl ⟨?hwvc23, ?hyvc23⟩) ?hrvc23
            case hivc23 => (simp only [List.getElem?_toArray, List.getElem?_cons_succ, List.getElem?_cons_zero]; rfl)
            case hqvc23 => exact fun _ _ _ h => h
            case hwvc23 => rfl
            case hyvc23 => (intro w0; go_simp; try with_reducible rfl)
            (try simp only [Act.put, List.setIfInBounds_toArray, List.set_cons_zero, List.set_cons_succ])
            refine' wpAny_take (i := 14) ?hivc24 (by kernel_rfl) (by kernel_rfl) (by kernel_rfl) ?hqvc24 (Or.inl ⟨?hwvc24, ?hyvc24⟩) ?hrvc24
            case hivc24 => (simp only [List.getElem?_toArray, List.getElem?_cons_succ, List.getElem?_cons_zero]; rfl)
            case hqvc24 => exact fun _ _ _ h => h
            case hwvc24 => rfl
            case hyvc24 => (intro w0; go_simp; try with_reducible rfl)
            (try simp only [Act.put, List.setIfInBounds_toArray, List.set_cons_zero, List.set_cons_succ])
            refine' wpAny_take (i := 15) ?hivc25 (by kernel_rfl) (by kernel_rfl) (by kernel_rfl) ?hqvc25 (Or.inl ⟨?hwvc25, ?hyvc25⟩) ?hrvc25
            case hivc25 => (simp only [List.getElem?_toArray, List.getElem?_cons_succ, List.getElem?_cons_zero]; rfl)
            case hqvc25 => exact fun _ _ _ h => h
            case hwvc25 => rfl
            case hyvc25 => (intro w0; go_simp; try with_reducible rfl)
            (try simp only [Act.put, List.setIfInBounds_toArray, List.set_cons_zero, List.set_cons_succ])
            refine' wpAny_take (i := 16) ?hivc26 (by kernel_rfl) (by kernel_rfl) (by kernel_rfl) ?hqvc26 (Or.inl ⟨?hwvc26, ?hyvc26⟩) ?hrvc26
            case hivc26 => (simp only [List.getElem?_toArray, List.getElem?_cons_succ, List.getElem?_cons_zero]; rfl)
            case hqvc26 => exact fun _ _ _ h => h
            case hwvc26 => rfl
            case hyvc26 => (intro w0; go_simp; try with_reducible rfl)
            (try simp only [Act.put, List.setIfInBounds_toArray, List.set_cons_zero, List.set_cons_succ])
            refine wpAny_ready (rs := [18]) (by kernel_rfl) (by simp) ?_
            refine' AllReady.cons ?hivc27 (fun K hK => ?hrvc27) AllReady.nil
            case hivc27 => (simp only [List.getElem?_toArray, List.getElem?_cons_succ, List.getElem?_cons_zero]; rfl)
            have hz : Below u.heap.size u w2 := HBA.out.trans (hb2.mono HBA.out.size)
            have hf := HFIN.out w2 u.heap.size 0 0 a1 a2 c1 c2 m2 (HBU.out.trans (hz.mono (Nat.le_of_eq HSU.out.symm))) (HYA.out.below hb2 HYA.out.lt) (Nat.le_of_eq HSU.out.symm) (HuA.out.next hb2) (ornp hA2 fun k hk => by have := HBA.out.size; have := HSU.out; omega) (ornp hB2 fun k hk => by have := HBA.out.size; have := HSU.out; omega) (OwnK.place hM2 fun k hk => by have a := hM2.2.2 k hk; have := HBA.out.size; have := HSU.out; simp only at a ⊢; omega)
            have HF := Lib.hid hf.2
            refine want_store_run rfl rfl rfl rfl hf.1 (hK _ _ ?_)
            clear hf
            clear hK K
            (try simp only [Act.put, List.setIfInBounds_toArray, List.set_cons_zero, List.set_cons_succ])
            refine' wpAny_take (i := 19) ?hivc28 (by kernel_rfl) (by kernel_rfl) (by kernel_rfl) ?hqvc28 (Or.inl ⟨?hwvc28, ?hyvc28⟩) ?hrvc28
            case hivc28 => (simp only [List.getElem?_toArray, List.getElem?_cons_succ, List.getElem?_cons_zero]; rfl)
            case hqvc28 => exact fun _ _ _ h => h
            case hwvc28 => rfl
            case hyvc28 => (intro w0; go_simp; try with_reducible rfl)
            (try simp only [Act.put, List.setIfInBounds_toArray, List.set_cons_zero, List.set_cons_succ])
            refine' wpAny_take (i := 20) ?hivc29 (by kernel_rfl) (by kernel_rfl) (by kernel_rfl) ?hqvc29 (Or.inl ⟨?hwvc29, ?hyvc29⟩) ?hrvc29
            case hivc29 => (simp only [List.getElem?_toArray, List.getElem?_cons_succ, List.getElem?_cons_zero]; rfl)
            case hqvc29 => exact fun _ _ _ h => h
            case hwvc29 => rfl
            case hyvc29 => (intro w0; go_simp; try with_reducible rfl)
            (try simp only [Act.put, List.setIfInBounds_toArray, List.set_cons_zero, List.set_cons_succ])
            refine wpAny_done (by kernel_rfl) ?_ _
            go_wp2_with fail
            go_meet
            exact ⟨_, _, _, rfl, Nat.le_of_eq HSU.out.symm, HF⟩
      case hrvc12_17 =>
        refine want_alloc_vt rfl rfl (hK _ _ ?_)
        rw [← HUA.out]
        clear hK K
        (try simp only [Act.put, List.setIfInBounds_toArray, List.set_cons_zero, List.set_cons_succ])
        refine wpAny_ready (rs := [11]) (by kernel_rfl) (by simp) ?_
        refine' AllReady.cons ?hivc30_11 (fun K hK => ?hrvc30_11) AllReady.nil
        case hivc30_11 => (simp only [List.getElem?_toArray, List.getElem?_cons_succ, List.getElem?_cons_zero]; rfl)
        case hrvc30_11 =>
          go_simp
          refine hK _ _ ?_
          clear hK K
          (try simp only [Act.put, List.setIfInBounds_toArray, List.set_cons_zero, List.set_cons_succ])
          refine wpAny_ready (rs := [12]) (by kernel_rfl) (by simp) ?_
          refine' AllReady.cons ?hivc31_12 (fun K hK => ?hrvc31_12) AllReady.nil
          case hivc31_12 => (simp only [List.getElem?_toArray, List.getElem?_cons_succ, List.getElem?_cons_zero]; rfl)
          case hrvc31_12 =>
            go_simp
            (refine (HLO.out _).mono ?_; rintro e w2 ⟨a1, c1, a2, c2, m2, rfl, hA2, hB2, hM2, hb2⟩)
            refine hK _ _ ?_
            clear hK K
            (try simp only [Act.put, List.setIfInBounds_toArray, List.set_cons_zero, List.set_cons_succ])
            refine' wpAny_take (i := 13) ?hivc32 (by kernel_rfl) (by kernel_rfl) (by kernel_rfl) ?hqvc32 (Or.inl ⟨?hwvc32, ?hyvc32⟩) ?hrvc32
            case hivc32 => (simp only [List.getElem?_toArray, List.getElem?_cons_succ, List.getElem?_cons_zero]; rfl)
            case hqvc32 => exact fun _ _ _ h => h
            case hwvc32 => rfl
            case hyvc32 => (intro w0; go_simp; try with_reducible rfl)
            (try simp only [Act.put, List.setIfInBounds_toArray, List.set_cons_zero, List.set_cons_succ])
            refine' wpAny_take (i := 14) ?hivc33 (by kernel_rfl) (by kernel_rfl) (by kernel_rfl) ?hqvc33 (Or.inl ⟨?hwvc33, ?hyvc33⟩) ?hrvc33
            case hivc33 => (simp only [List.getElem?_toArray, List.getElem?_cons_succ, List.getElem?_cons_zero]; rfl)
            case hqvc33 => exact fun _ _ _ h => h
            case hwvc33 => rfl
            case hyvc33 => (intro w0; go_simp; try with_reducible rfl)
            (try simp only [Act.put, List.setIfInBounds_toArray, List.set_cons_zero, List.set_cons_succ])
            refine' wpAny_take (i := 15) ?hivc34 (by kernel_rfl) (by kernel_rfl) (by kernel_rfl) ?hqvc34 (Or.inl ⟨?hwvc34, ?hyvc34⟩) ?hrvc34
            case hivc34 => (simp only [List.getElem?_toArray, List.getElem?_cons_succ, List.getElem?_cons_zero]; rfl)
            case hqvc34 => exact fun _ _ _ h => h
            case hwvc34 => rfl
            case hyvc34 => (intro w0; go_simp; try with_reducible rfl)
            (try simp only [Act.put, List.setIfInBounds_toArray, List.set_cons_zero, List.set_cons_succ])
            refine' wpAny_take (i := 16) ?hivc35 (by kernel_rfl) (by kernel_rfl) (by kernel_rfl) ?hqvc35 (Or.inl ⟨?hwvc35, ?hyvc35⟩) ?hrvc35
            case hivc35 => (simp only [List.getElem?_toArray, List.getElem?_cons_succ, List.getElem?_cons_zero]; rfl)
            case hqvc35 => exact fun _ _ _ h => h
            case hwvc35 => rfl
            case hyvc35 => (intro w0; go_simp; try with_reducible rfl)
            (try simp only [Act.put, List.setIfInBounds_toArray, List.set_cons_zero, List.set_cons_succ])
            refine wpAny_ready (rs := [18]) (by kernel_rfl) (by simp) ?_
            refine' AllReady.cons ?hivc36 (fun K hK => ?hrvc36) AllReady.nil
            case hivc36 => (simp only [List.getElem?_toArray, List.getElem?_cons_succ, List.getElem?_cons_zero]; rfl)
            have hz : Below u.heap.size u w2 := HBA.out.trans (hb2.mono HBA.out.size)
            have hf := HFIN.out w2 u.heap.size 0 0 a1 a2 c1 c2 m2 (HBU.out.trans (hz.mono (Nat.le_of_eq HSU.out.symm))) (HYA.out.below hb2 HYA.out.lt) (Nat.le_of_eq HSU.out.symm) (HuA.out.next hb2) (ornp hA2 fun k hk => by have := HBA.out.size; have := HSU.out; omega) (ornp hB2 fun k hk => by have := HBA.out.size; have := HSU.out; omega) (OwnK.place hM2 fun k hk => by have a := hM2.2.2 k hk; have := HBA.out.size; have := HSU.out; simp only at a ⊢; omega)
            have HF := Lib.hid hf.2
            refine want_store_run rfl rfl rfl rfl hf.1 (hK _ _ ?_)
            clear hf
            clear hK K
            (try simp only [Act.put, List.setIfInBounds_toArray, List.set_cons_zero, List.set_cons_succ])
            refine' wpAny_take (i := 19) ?hivc37 (by kernel_rfl) (by kernel_rfl) (by kernel_rfl) ?hqvc37 (Or.inl ⟨?hwvc37, ?hyvc37⟩) ?hrvc37
            case hivc37 => (simp only [List.getElem?_toArray, List.getElem?_cons_succ, List.getElem?_cons_zero]; rfl)
            case hqvc37 => exact fun _ _ _ h => h
            case hwvc37 => rfl
            case hyvc37 => (intro w0; go_simp; try with_reducible rfl)
            (try simp only [Act.put, List.setIfInBounds_toArray, List.set_cons_zero, List.set_cons_succ])
            refine' wpAny_take (i := 20) ?hivc38 (by kernel_rfl) (by kernel_rfl) (by kernel_rfl) ?hqvc38 (Or.inl ⟨?hwvc38, ?hyvc38⟩) ?hrvc38
            case hivc38 => (simp only [List.getElem?_toArray, List.getElem?_cons_succ, List.getElem?_cons_zero]; rfl)
            case hqvc38 => exact fun _ _ _ h => h
            case hwvc38 => rfl
            case hyvc38 => (intro w0; go_simp; try with_reducible rfl)
            (try simp only [Act.put, List.setIfInBounds_toArray, List.set_cons_zero, List.set_cons_succ])
            refine wpAny_done (by kernel_rfl) ?_ _
            go_wp2_with fail
            go_meet
            exact ⟨_, _, _, rfl, Nat.le_of_eq HSU.out.symm, HF⟩
    case hrvc11_11 =>
      go_simp
      refine hK _ _ ?_
      clear hK K
      (try simp only [Act.put, List.setIfInBounds_toArray, List.set_cons_zero, List.set_cons_succ])
      refine wpAny_ready (rs := [5, 17]) (by kernel_rfl) (by simp) ?_
      refine' AllReady.cons ?hivc39_5 (fun K hK => ?hrvc39_5) (AllReady.cons ?hivc39_17 (fun K hK => ?hrvc39_17) AllReady.nil)
      case hivc39_5 => (simp only [List.getElem?_toArray, List.getElem?_cons_succ, List.getElem?_cons_zero]; rfl)
      case hivc39_17 => (simp only [List.getElem?_toArray, List.getElem?_cons_succ, List.getElem?_cons_zero]; rfl)
      case hrvc39_5 =>
        go_simp
        refine hK _ _ ?_
        clear hK K
        (try simp only [Act.put, List.setIfInBounds_toArray, List.set_cons_zero, List.set_cons_succ])
        refine wpAny_ready (rs := [12, 17]) (by kernel_rfl) (by simp) ?_
        refine' AllReady.cons ?hivc40_12 (fun K hK => ?hrvc40_12) (AllReady.cons ?hivc40_17 (fun K hK => ?hrvc40_17) AllReady.nil)
        case hivc40_12 => (simp only [List.getElem?_toArray, List.getElem?_cons_succ, List.getElem?_cons_zero]; rfl)
        case hivc40_17 => (simp only [List.getElem?_toArray, List.getElem?_cons_succ, List.getElem?_cons_zero]; rfl)
        case hrvc40_12 =>
          go_simp
          (refine (HLO.out _).mono ?_; rintro e w2 ⟨a1, c1, a2, c2, m2, rfl, hA2, hB2, hM2, hb2⟩)
          refine hK _ _ ?_
          clear hK K
          (try simp only [Act.put, List.setIfInBounds_toArray, List.set_cons_zero, List.set_cons_succ])
          refine' wpAny_take (i := 13) ?hivc41 (by kernel_rfl) (by kernel_rfl) (by kernel_rfl) ?hqvc41 (Or.inl ⟨?hwvc41, ?hyvc41⟩) ?hrvc41
          case hivc41 => (simp only [List.getElem?_toArray, List.getElem?_cons_succ, List.getElem?_cons_zero]; rfl)
          case hqvc41 => exact fun _ _ _ h => h
          case hwvc41 => rfl
          case hyvc41 => (intro w0; go_simp; try with_reducible rfl)
          (try simp only [Act.put, List.setIfInBounds_toArray, List.set_cons_zero, List.set_cons_succ])
          refine' wpAny_take (i := 14) ?hivc42 (by kernel_rfl) (by kernel_rfl) (by kernel_rfl) ?hqvc42 (Or.inl ⟨?hwvc42, ?hyvc42⟩) ?hrvc42
          case hivc42 => (simp only [List.getElem?_toArray, List.getElem?_cons_succ, List.getElem?_cons_zero]; rfl)
          case hqvc42 => exact fun _ _ _ h => h
          case hwvc42 => rfl
          case hyvc42 => (intro w0; go_simp; try with_reducible rfl)
          (try simp only [Act.put, List.setIfInBounds_toArray, List.set_cons_zero, List.set_cons_succ])
          refine' wpAny_take (i := 15) ?hivc43 (by kernel_rfl) (by kernel_rfl) (by kernel_rfl) ?hqvc43 (Or.inl ⟨?hwvc43, ?hyvc43⟩) ?hrvc43
          case hivc43 => (simp only [List.getElem?_toArray, List.getElem?_cons_succ, List.getElem?_cons_zero]; rfl)
          case hqvc43 => exact fun _ _ _ h => h
          case hwvc43 => rfl
          case hyvc43 => (intro w0; go_simp; try with_reducible rfl)
          (try simp only [Act.put, List.setIfInBounds_toArray, List.set_cons_zero, List.set_cons_succ])
          refine' wpAny_take (i := 16) ?hivc44 (by kernel_rfl) (by kernel_rfl) (by kernel_rfl) ?hqvc44 (Or.inl ⟨?hwvc44, ?hyvc44⟩) ?hrvc44
          case hivc44 => (simp only [List.getElem?_toArray, List.getElem?_cons_succ, List.getElem?_cons_zero]; rfl)
          case hqvc44 => exact fun _ _ _ h => h
          case hwvc44 => rfl
          case hyvc44 => (intro w0; go_simp; try with_reducible rfl)
          (try simp only [Act.put, List.setIfInBounds_toArray, List.set_cons_zero, List.set_cons_succ])
          refine wpAny_ready (rs := [17]) (by kernel_rfl) (by simp) ?_
          refine' AllReady.cons ?hivc45_17 (fun K hK => ?hrvc45_17) AllReady.nil
          case hivc45_17 => (simp only [List.getElem?_toArray, List.getElem?_cons_succ, List.getElem?_cons_zero]; rfl)
          case hrvc45_17 =>
            refine want_alloc_vt rfl rfl (hK _ _ ?_)
            clear hK K
            (try simp only [Act.put, List.setIfInBounds_toArray, List.set_cons_zero, List.set_cons_succ])
            refine wpAny_ready (rs := [18]) (by kernel_rfl) (by simp) ?_
            refine' AllReady.cons ?hivc46 (fun K hK => ?hrvc46) AllReady.nil
            case hivc46 => (simp only [List.getElem?_toArray, List.getElem?_cons_succ, List.getElem?_cons_zero]; rfl)
            have h2 : Below w2.heap.size w2 (w2.alloc (.cells zvcl 31)) := (Below.refl _ _).alloc (Nat.le_refl _) _
            have hz : Below u.heap.size u (w2.alloc (.cells zvcl 31)) := hb2.trans (h2.mono hb2.size)
            have hf := HFIN.out (w2.alloc (.cells zvcl 31)) w2.heap.size 0 0 a1 a2 c1 c2 m2 (HBU.out.trans (hz.mono (Nat.le_of_eq HSU.out.symm))) (Blk.new w2 _ _) (by have := hb2.size; have := HSU.out; omega) ((Hu.out.next hb2).next h2) (ornx (ornp hA2 fun k hk => by have := HSU.out; omega) h2) (ornx (ornp hB2 fun k hk => by have := HSU.out; omega) h2) (OwnK.next (OwnK.place hM2 fun k hk => by have a := hM2.2.2 k hk; have := HSU.out; simp only at a ⊢; omega) h2)
            have HF := Lib.hid hf.2
            refine want_store_run rfl rfl rfl rfl hf.1 (hK _ _ ?_)
            clear hf
            clear hK K
            (try simp only [Act.put, List.setIfInBounds_toArray, List.set_cons_zero, List.set_cons_succ])
            refine' wpAny_take (i := 19) ?hivc47 (by kernel_rfl) (by kernel_rfl) (by kernel_rfl) ?hqvc47 (Or.inl ⟨?hwvc47, ?hyvc47⟩) ?hrvc47
            case hivc47 => (simp only [List.getElem?_toArray, List.getElem?_cons_succ, List.getElem?_cons_zero]; rfl)
            case hqvc47 => exact fun _ _ _ h => h
            case hwvc47 => rfl
            case hyvc47 => (intro w0; go_simp; try with_reducible rfl)
            (try simp only [Act.put, List.setIfInBounds_toArray, List.set_cons_zero, List.set_cons_succ])
            refine' wpAny_take (i := 20) ?hivc48 (by kernel_rfl) (by kernel_rfl) (by kernel_rfl) ?hqvc48 (Or.inl ⟨?hwvc48, ?hyvc48⟩) ?hrvc48
            case hivc48 => (simp only [List.getElem?_toArray, List.getElem?_cons_succ, List.getElem?_cons_zero]; rfl)
            case hqvc48 => exact fun _ _ _ h => h
            case hwvc48 => rfl
            case hyvc48 => (intro w0; go_simp; try with_reducible rfl)
            (try simp only [Act.put, List.setIfInBounds_toArray, List.set_cons_zero, List.set_cons_succ])
            refine wpAny_done (by kernel_rfl) ?_ _
            go_wp2_with fail
            go_meet
            exact ⟨_, _, _, rfl, by have := hb2.size; have := HSU.out; omega, HF⟩
        case hrvc40_17 =>
          refine want_alloc_vt rfl rfl (hK _ _ ?_)
          rw [← HUA.out]
          clear hK K
          (try simp only [Act.put, List.setIfInBounds_toArray, List.set_cons_zero, List.set_cons_succ])
          refine wpAny_ready (rs := [12]) (by kernel_rfl) (by simp) ?_
          refine' AllReady.cons ?hivc49_12 (fun K hK => ?hrvc49_12) AllReady.nil
          case hivc49_12 => (simp only [List.getElem?_toArray, List.getElem?_cons_succ, List.getElem?_cons_zero]; rfl)
          case hrvc49_12 =>
            go_simp
            (refine (HLO.out _).mono ?_; rintro e w2 ⟨a1, c1, a2, c2, m2, rfl, hA2, hB2, hM2, hb2⟩)
            refine hK _ _ ?_
            clear hK K
            (try simp only [Act.put, List.setIfInBounds_toArray, List.set_cons_zero, List.set_cons_succ])
            refine' wpAny_take (i := 13) ?hivc50 (by kernel_rfl) (by kernel_rfl) (by kernel_rfl) ?hqvc50 (Or.inl ⟨?hwvc50, ?hyvc50⟩) ?hrvc50
            case hivc50 => (simp only [List.getElem?_toArray, List.getElem?_cons_succ, List.getElem?_cons_zero]; rfl)
            case hqvc50 => exact fun _ _ _ h => h
            case hwvc50 => rfl
            case hyvc50 => (intro w0; go_simp; try with_reducible rfl)
            (try simp only [Act.put, List.setIfInBounds_toArray, List.set_cons_zero, List.set_cons_succ])
            refine' wpAny_take (i := 14) ?hivc51 (by kernel_rfl) (by kernel_rfl) (by kernel_rfl) ?hqvc51 (Or.inl ⟨?hwvc51, ?hyvc51⟩) ?hrvc51
            case hivc51 => (simp only [List.getElem?_toArray, List.getElem?_cons_succ, List.getElem?_cons_zero]; rfl)
            case hqvc51 => exact fun _ _ _ h => h
            case hwvc51 => rfl
            case hyvc51 => (intro w0; go_simp; try with_reducible rfl)
            (try simp only [Act.put, List.setIfInBounds_toArray, List.set_cons_zero, List.set_cons_succ])
            refine' wpAny_take (i := 15) ?hivc52 (by kernel_rfl) (by kernel_rfl) (by kernel_rfl) ?hqvc52 (Or.inl ⟨?hwvc52, ?hyvc52⟩) ?hrvc52
            case hivc52 => (simp only [List.getElem?_toArray, List.getElem?_cons_succ, List.getElem?_cons_zero]; rfl)
            case hqvc52 => exact fun _ _ _ h => h
            case hwvc52 => rfl
            case hyvc52 => (intro w0; go_simp; try with_reducible rfl)
            (try simp only [Act.put, List.setIfInBounds_toArray, List.set_cons_zero, List.set_cons_succ])
            refine' wpAny_take (i := 16) ?hivc53 (by kernel_rfl) (by kernel_rfl) (by kernel_rfl) ?hqvc53 (Or.inl ⟨?hwvc53, ?hyvc53⟩) ?hrvc53
            case hivc53 => (simp only [List.getElem?_toArray, List.getElem?_cons_succ, List.getElem?_cons_zero]; rfl)
            case hqvc53 => exact fun _ _ _ h => h
            case hwvc53 => rfl
            case hyvc53 => (intro w0; go_simp; try with_reducible rfl)
            (try simp only [Act.put, List.setIfInBounds_toArray, List.set_cons_zero, List.set_cons_succ])
            refine wpAny_ready (rs := [18]) (by kernel_rfl) (by simp) ?_
            refine' AllReady.cons ?hivc54 (fun K hK => ?hrvc54) AllReady.nil
            case hivc54 => (simp only [List.getElem?_toArray, List.getElem?_cons_succ, List.getElem?_cons_zero]; rfl)
            have hz : Below u.heap.size u w2 := HBA.out.trans (hb2.mono HBA.out.size)
            have hf := HFIN.out w2 u.heap.size 0 0 a1 a2 c1 c2 m2 (HBU.out.trans (hz.mono (Nat.le_of_eq HSU.out.symm))) (HYA.out.below hb2 HYA.out.lt) (Nat.le_of_eq HSU.out.symm) (HuA.out.next hb2) (ornp hA2 fun k hk => by have := HBA.out.size; have := HSU.out; omega) (ornp hB2 fun k hk => by have := HBA.out.size; have := HSU.out; omega) (OwnK.place hM2 fun k hk => by have a := hM2.2.2 k hk; have := HBA.out.size; have := HSU.out; simp only at a ⊢; omega)
            have HF := Lib.hid hf.2
            refine want_store_run rfl rfl rfl rfl hf.1 (hK _ _ ?_)
            clear hf
            clear hK K
            (try simp only [Act.put, List.setIfInBounds_toArray, List.set_cons_zero, List.set_cons_succ])
            refine' wpAny_take (i := 19) ?hivc55 (by kernel_rfl) (by kernel_rfl) (by kernel_rfl) ?hqvc55 (Or.inl ⟨?hwvc55, ?hyvc55⟩) ?hrvc55
            case hivc55 => (simp only [List.getElem?_toArray, List.getElem?_cons_succ, List.getElem?_cons_zero]; rfl)
            case hqvc55 => exact fun _ _ _ h => h
            case hwvc55 => rfl
            case hyvc55 => (intro w0; go_simp; try with_reducible rfl)
            (try simp only [Act.put, List.setIfInBounds_toArray, List.set_cons_zero, List.set_cons_succ])
            refine' wpAny_take (i := 20) ?hivc56 (by kernel_rfl) (by kernel_rfl) (by kernel_rfl) ?hqvc56 (Or.inl ⟨?hwvc56, ?hyvc56⟩) ?hrvc56
            case hivc56 => (simp only [List.getElem?_toArray, List.getElem?_cons_succ, List.getElem?_cons_zero]; rfl)
            case hqvc56 => exact fun _ _ _ h => h
            case hwvc56 => rfl
            case hyvc56 => (intro w0; go_simp; try with_reducible rfl)
            (try simp only [Act.put, List.setIfInBounds_toArray, List.set_cons_zero, List.set_cons_succ])
            refine wpAny_done (by kernel_rfl) ?_ _
            go_wp2_with fail
            go_meet
            exact ⟨_, _, _, rfl, Nat.le_of_eq HSU.out.symm, HF⟩
      case hrvc39_17 =>
        refine want_alloc_vt rfl rfl (hK _ _ ?_)
        rw [← HUA.out]
        clear hK K
        (try simp only [Act.put, List.setIfInBounds_toArray, List.set_cons_zero, List.set_cons_succ])
        refine wpAny_ready (rs := [5]) (by kernel_rfl) (by simp) ?_
        refine' AllReady.cons ?hivc57_5 (fun K hK => ?hrvc57_5) AllReady.nil
        case hivc57_5 => (simp only [List.getElem?_toArray, List.getElem?_cons_succ, List.getElem?_cons_zero]; rfl)
        case hrvc57_5 =>
          go_simp
          refine hK _ _ ?_
          clear hK K
          (try simp only [Act.put, List.setIfInBounds_toArray, List.set_cons_zero, List.set_cons_succ])
          refine wpAny_ready (rs := [12]) (by kernel_rfl) (by simp) ?_
          refine' AllReady.cons ?hivc58_12 (fun K hK => ?hrvc58_12) AllReady.nil
          case hivc58_12 => (simp only [List.getElem?_toArray, List.getElem?_cons_succ, List.getElem?_cons_zero]; rfl)
          case hrvc58_12 =>
            go_simp
            (refine (HLO.out _).mono ?_; rintro e w2 ⟨a1, c1, a2, c2, m2, rfl, hA2, hB2, hM2, hb2⟩)
            refine hK _ _ ?_
            clear hK K
            (try simp only [Act.put, List.setIfInBounds_toArray, List.set_cons_zero, List.set_cons_succ])
            refine' wpAny_take (i := 13) ?hivc59 (by kernel_rfl) (by kernel_rfl) (by kernel_rfl) ?hqvc59 (Or.inl ⟨?hwvc59, ?hyvc59⟩) ?hrvc59
            case hivc59 => (simp only [List.getElem?_toArray, List.getElem?_cons_succ, List.getElem?_cons_zero]; rfl)
            case hqvc59 => exact fun _ _ _ h => h
            case hwvc59 => rfl
            case hyvc59 => (intro w0; go_simp; try with_reducible rfl)
            (try simp only [Act.put, List.setIfInBounds_toArray, List.set_cons_zero, List.set_cons_succ])
            refine' wpAny_take (i := 14) ?hivc60 (by kernel_rfl) (by kernel_rfl) (by kernel_rfl) ?hqvc60 (Or.inl ⟨?hwvc60, ?hyvc60⟩) ?hrvc60
            case hivc60 => (simp only [List.getElem?_toArray, List.getElem?_cons_succ, List.getElem?_cons_zero]; rfl)
            case hqvc60 => exact fun _ _ _ h => h
            case hwvc60 => rfl
            case hyvc60 => (intro w0; go_simp; try with_reducible rfl)
            (try simp only [Act.put, List.setIfInBounds_toArray, List.set_cons_zero, List.set_cons_succ])
            refine' wpAny_take (i := 15) ?hivc61 (by kernel_rfl) (by kernel_rfl) (by kernel_rfl) ?hqvc61 (Or.inl ⟨?hwvc61, ?hyvc61⟩) ?hrvc61
            case hivc61 => (simp only [List.getElem?_toArray, List.getElem?_cons_succ, List.getElem?_cons_zero]; rfl)
            case hqvc61 => exact fun _ _ _ h => h
            case hwvc61 => rfl
            case hyvc61 => (intro w0; go_simp; try with_reducible rfl)
            (try simp only [Act.put, List.setIfInBounds_toArray, List.set_cons_zero, List.set_cons_succ])
            refine' wpAny_take (i := 16) ?hivc62 (by kernel_rfl) (by kernel_rfl) (by kernel_rfl) ?hqvc62 (Or.inl ⟨?hwvc62, ?hyvc62⟩) ?hrvc62
            case hivc62 => (simp only [List.getElem?_toArray, List.getElem?_cons_succ, List.getElem?_cons_zero]; rfl)
            case hqvc62 => exact fun _ _ _ h => h
            case hwvc62 => rfl
            case hyvc62 => (intro w0; go_simp; try with_reducible rfl)
            (try simp only [Act.put, List.setIfInBounds_toArray, List.set_cons_zero, List.set_cons_succ])
            refine wpAny_ready (rs := [18]) (by kernel_rfl) (by simp) ?_
            refine' AllReady.cons ?hivc63 (fun K hK => ?hrvc63) AllReady.nil
            case hivc63 => (simp only [List.getElem?_toArray, List.getElem?_cons_succ, List.getElem?_cons_zero]; rfl)
            have hz : Below u.heap.size u w2 := HBA.out.trans (hb2.mono HBA.out.size)
            have hf := HFIN.out w2 u.heap.size 0 0 a1 a2 c1 c2 m2 (HBU.out.trans (hz.mono (Nat.le_of_eq HSU.out.symm))) (HYA.out.below hb2 HYA.out.lt) (Nat.le_of_eq HSU.out.symm) (HuA.out.next hb2) (ornp hA2 fun k hk => by have := HBA.out.size; have := HSU.out; omega) (ornp hB2 fun k hk => by have := HBA.out.size; have := HSU.out; omega) (OwnK.place hM2 fun k hk => by have a := hM2.2.2 k hk; have := HBA.out.size; have := HSU.out; simp only at a ⊢; omega)
            have HF := Lib.hid hf.2
            refine want_store_run rfl rfl rfl rfl hf.1 (hK _ _ ?_)
            clear hf
            clear hK K
            (try simp only [Act.put, List.setIfInBounds_toArray, List.set_cons_zero, List.set_cons_succ])
            refine' wpAny_take (i := 19) ?hivc64 (by kernel_rfl) (by kernel_rfl) (by kernel_rfl) ?hqvc64 (Or.inl ⟨?hwvc64, ?hyvc64⟩) ?hrvc64
            case hivc64 => (simp only [List.getElem?_toArray, List.getElem?_cons_succ, List.getElem?_cons_zero]; rfl)
            case hqvc64 => exact fun _ _ _ h => h
            case hwvc64 => rfl
            case hyvc64 => (intro w0; go_simp; try with_reducible rfl)
            (try simp only [Act.put, List.setIfInBounds_toArray, List.set_cons_zero, List.set_cons_succ])
            refine' wpAny_take (i := 20) ?hivc65 (by kernel_rfl) (by kernel_rfl) (by kernel_rfl) ?hqvc65 (Or.inl ⟨?hwvc65, ?hyvc65⟩) ?hrvc65
            case hivc65 => (simp only [List.getElem?_toArray, List.getElem?_cons_succ, List.getElem?_cons_zero]; rfl)
            case hqvc65 => exact fun _ _ _ h => h
            case hwvc65 => rfl
            case hyvc65 => (intro w0; go_simp; try with_reducible rfl)
            (try simp only [Act.put, List.setIfInBounds_toArray, List.set_cons_zero, List.set_cons_succ])
            refine wpAny_done (by kernel_rfl) ?_ _
            go_wp2_with fail
            go_meet
            exact ⟨_, _, _, rfl, Nat.le_of_eq HSU.out.symm, HF⟩
    case hrvc11_17 =>
      refine want_alloc_vt rfl rfl (hK _ _ ?_)
      rw [← HUA.out]
      clear hK K
      (try simp only [Act.put, List.setIfInBounds_toArray, List.set_cons_zero, List.set_cons_succ])
      refine wpAny_ready (rs := [5, 11]) (by kernel_rfl) (by simp) ?_
      refine' AllReady.cons ?hivc66_5 (fun K hK => ?hrvc66_5) (AllReady.cons ?hivc66_11 (fun K hK => ?hrvc66_11) AllReady.nil)
      case hivc66_5 => (simp only [List.getElem?_toArray, List.getElem?_cons_succ, List.getElem?_cons_zero]; rfl)
      case hivc66_11 => (simp only [List.getElem?_toArray, List.getElem?_cons_succ, List.getElem?_cons_zero]; rfl)
      case hrvc66_5 =>
        go_simp
        refine hK _ _ ?_
        clear hK K
        (try simp only [Act.put, List.setIfInBounds_toArray, List.set_cons_zero, List.set_cons_succ])
        refine wpAny_ready (rs := [11]) (by kernel_rfl) (by simp) ?_
        refine' AllReady.cons ?hivc67_11 (fun K hK => ?hrvc67_11) AllReady.nil
        case hivc67_11 => (simp only [List.getElem?_toArray, List.getElem?_cons_succ, List.getElem?_cons_zero]; rfl)
        case hrvc67_11 =>
          go_simp
          refine hK _ _ ?_
          clear hK K
          (try simp only [Act.put, List.setIfInBounds_toArray, List.set_cons_zero, List.set_cons_succ])
          refine wpAny_ready (rs := [12]) (by kernel_rfl) (by simp) ?_
          refine' AllReady.cons ?hivc68_12 (fun K hK => ?hrvc68_12) AllReady.nil
          case hivc68_12 => (simp only [List.getElem?_toArray, List.getElem?_cons_succ, List.getElem?_cons_zero]; rfl)
          case hrvc68_12 =>
            go_simp
            (refine (HLO.out _).mono ?_; rintro e w2 ⟨a1, c1, a2, c2, m2, rfl, hA2, hB2, hM2, hb2⟩)
            refine hK _ _ ?_
            clear hK K
            (try simp only [Act.put, List.setIfInBounds_toArray, List.set_cons_zero, List.set_cons_succ])
            refine' wpAny_take (i := 13) ?hivc69 (by kernel_rfl) (by kernel_rfl) (by kernel_rfl) ?hqvc69 (Or.inl ⟨?hwvc69, ?hyvc69⟩) ?hrvc69
            case hivc69 => (simp only [List.getElem?_toArray, List.getElem?_cons_succ, List.getElem?_cons_zero]; rfl)
            case hqvc69 => exact fun _ _ _ h => h
            case hwvc69 => rfl
            case hyvc69 => (intro w0; go_simp; try with_reducible rfl)
            (try simp only [Act.put, List.setIfInBounds_toArray, List.set_cons_zero, List.set_cons_succ])
            refine' wpAny_take (i := 14) ?hivc70 (by kernel_rfl) (by kernel_rfl) (by kernel_rfl) ?hqvc70 (Or.inl ⟨?hwvc70, ?hyvc70⟩) ?hrvc70
            case hivc70 => (simp only [List.getElem?_toArray, List.getElem?_cons_succ, List.getElem?_cons_zero]; rfl)
            case hqvc70 => exact fun _ _ _ h => h
            case hwvc70 => rfl
            case hyvc70 => (intro w0; go_simp; try with_reducible rfl)
            (try simp only [Act.put, List.setIfInBounds_toArray, List.set_cons_zero, List.set_cons_succ])
            refine' wpAny_take (i := 15) ?hivc71 (by kernel_rfl) (by kernel_rfl) (by kernel_rfl) ?hqvc71 (Or.inl ⟨?hwvc71, ?hyvc71⟩) ?hrvc71
            case hivc71 => (simp only [List.getElem?_toArray, List.getElem?_cons_succ, List.getElem?_cons_zero]; rfl)
            case hqvc71 => exact fun _ _ _ h => h
            case hwvc71 => rfl
            case hyvc71 => (intro w0; go_simp; try with_reducible rfl)
            (try simp only [Act.put, List.setIfInBounds_toArray, List.set_cons_zero, List.set_cons_succ])
            refine' wpAny_take (i := 16) ?hivc72 (by kernel_rfl) (by kernel_rfl) (by kernel_rfl) ?hqvc72 (Or.inl ⟨?hwvc72, ?hyvc72⟩) ?hrvc72
            case hivc72 => (simp only [List.getElem?_toArray, List.getElem?_cons_succ, List.getElem?_cons_zero]; rfl)
            case hqvc72 => exact fun _ _ _ h => h
            case hwvc72 => rfl
            case hyvc72 => (intro w0; go_simp; try with_reducible rfl)
            (try simp only [Act.put, List.setIfInBounds_toArray, List.set_cons_zero, List.set_cons_succ])
            refine wpAny_ready (rs := [18]) (by kernel_rfl) (by simp) ?_
            refine' AllReady.cons ?hivc73 (fun K hK => ?hrvc73) AllReady.nil
            case hivc73 => (simp only [List.getElem?_toArray, List.getElem?_cons_succ, List.getElem?_cons_zero]; rfl)
            have hz : Below u.heap.size u w2 := HBA.out.trans (hb2.mono HBA.out.size)
            have hf := HFIN.out w2 u.heap.size 0 0 a1 a2 c1 c2 m2 (HBU.out.trans (hz.mono (Nat.le_of_eq HSU.out.symm))) (HYA.out.below hb2 HYA.out.lt) (Nat.le_of_eq HSU.out.symm) (HuA.out.next hb2) (ornp hA2 fun k hk => by have := HBA.out.size; have := HSU.out; omega) (ornp hB2 fun k hk => by have := HBA.out.size; have := HSU.out; omega) (OwnK.place hM2 fun k hk => by have a := hM2.2.2 k hk; have := HBA.out.size; have := HSU.out; simp only at a ⊢; omega)
            have HF := Lib.hid hf.2
            refine want_store_run rfl rfl rfl rfl hf.1 (hK _ _ ?_)
            clear hf
            clear hK K
            (try simp only [Act.put, List.setIfInBounds_toArray, List.set_cons_zero, List.set_cons_succ])
            refine' wpAny_take (i := 19) ?hivc74 (by kernel_rfl) (by kernel_rfl) (by kernel_rfl) ?hqvc74 (Or.inl ⟨?hwvc74, ?hyvc74⟩) ?hrvc74
            case hivc74 => (simp only [List.getElem?_toArray, List.getElem?_cons_succ, List.getElem?_cons_zero]; rfl)
            case hqvc74 => exact fun _ _ _ h => h
            case hwvc74 => rfl
            case hyvc74 => (intro w0; go_simp; try with_reducible rfl)
            (try simp only [Act.put, List.setIfInBounds_toArray, List.set_cons_zero, List.set_cons_succ])
            refine' wpAny_take (i := 20) ?hivc75 (by kernel_rfl) (by kernel_rfl) (by kernel_rfl) ?hqvc75 (Or.inl ⟨?hwvc75, ?hyvc75⟩) ?hrvc75
            case hivc75 => (simp only [List.getElem?_toArray, List.getElem?_cons_succ, List.getElem?_cons_zero]; rfl)
            case hqvc75 => exact fun _ _ _ h => h
            case hwvc75 => rfl
            case hyvc75 => (intro w0; go_simp; try with_reducible rfl)
            (try simp only [Act.put, List.setIfInBounds_toArray, List.set_cons_zero, List.set_cons_succ])
            refine wpAny_done (by kernel_rfl) ?_ _
            go_wp2_with fail
            go_meet
            exact ⟨_, _, _, rfl, Nat.le_of_eq HSU.out.symm, HF⟩
      case hrvc66_11 =>
        go_simp
        refine hK _ _ ?_
        clear hK K
        (try simp only [Act.put, List.setIfInBounds_toArray, List.set_cons_zero, List.set_cons_succ])
        refine wpAny_ready (rs := [5]) (by kernel_rfl) (by simp) ?_
        refine' AllReady.cons ?hivc76_5 (fun K hK => ?hrvc76_5) AllReady.nil
        case hivc76_5 => (simp only [List.getElem?_toArray, List.getElem?_cons_succ, List.getElem?_cons_zero]; rfl)
        case hrvc76_5 =>
          go_simp
          refine hK _ _ ?_
          clear hK K
          (try simp only [Act.put, List.setIfInBounds_toArray, List.set_cons_zero, List.set_cons_succ])
          refine wpAny_ready (rs := [12]) (by kernel_rfl) (by simp) ?_
          refine' AllReady.cons ?hivc77_12 (fun K hK => ?hrvc77_12) AllReady.nil
          case hivc77_12 => (simp only [List.getElem?_toArray, List.getElem?_cons_succ, List.getElem?_cons_zero]; rfl)
          case hrvc77_12 =>
            go_simp
            (refine (HLO.out _).mono ?_; rintro e w2 ⟨a1, c1, a2, c2, m2, rfl, hA2, hB2, hM2, hb2⟩)
            refine hK _ _ ?_
            clear hK K
            (try simp only [Act.put, List.setIfInBounds_toArray, List.set_cons_zero, List.set_cons_succ])
            refine' wpAny_take (i := 13) ?hivc78 (by kernel_rfl) (by kernel_rfl) (by kernel_rfl) ?hqvc78 (Or.inl ⟨?hwvc78, ?hyvc78⟩) ?hrvc78
            case hivc78 => (simp only [List.getElem?_toArray, List.getElem?_cons_succ, List.getElem?_cons_zero]; rfl)
            case hqvc78 => exact fun _ _ _ h => h
            case hwvc78 => rfl
            case hyvc78 => (intro w0; go_simp; try with_reducible rfl)
            (try simp only [Act.put, List.setIfInBounds_toArray, List.set_cons_zero, List.set_cons_succ])
            refine' wpAny_take (i := 14) ?hivc79 (by kernel_rfl) (by kernel_rfl) (by kernel_rfl) ?hqvc79 (Or.inl ⟨?hwvc79, ?hyvc79⟩) ?hrvc79
            case hivc79 => (simp only [List.getElem?_toArray, List.getElem?_cons_succ, List.getElem?_cons_zero]; rfl)
            case hqvc79 => exact fun _ _ _ h => h
            case hwvc79 => rfl
            case hyvc79 => (intro w0; go_simp; try with_reducible rfl)
            (try simp only [Act.put, List.setIfInBounds_toArray, List.set_cons_zero, List.set_cons_succ])
            refine' wpAny_take (i := 15) ?hivc80 (by kernel_rfl) (by kernel_rfl) (by kernel_rfl) ?hqvc80 (Or.inl ⟨?hwvc80, ?hyvc80⟩) ?hrvc80
            case hivc80 => (simp only [List.getElem?_toArray, List.getElem?_cons_succ, List.getElem?_cons_zero]; rfl)
            case hqvc80 => exact fun _ _ _ h => h
            case hwvc80 => rfl
            case hyvc80 => (intro w0; go_simp; try with_reducible rfl)
            (try simp only [Act.put, List.setIfInBounds_toArray, List.set_cons_zero, List.set_cons_succ])
            refine' wpAny_take (i := 16) ?hivc81 (by kernel_rfl) (by kernel_rfl) (by kernel_rfl) ?hqvc81 (Or.inl ⟨?hwvc81, ?hyvc81⟩) ?hrvc81
            case hivc81 => (simp only [List.getElem?_toArray, List.getElem?_cons_succ, List.getElem?_cons_zero]; rfl)
            case hqvc81 => exact fun _ _ _ h => h
            case hwvc81 => rfl
            case hyvc81 => (intro w0; go_simp; try with_reducible rfl)
            (try simp only [Act.put, List.setIfInBounds_toArray, List.set_cons_zero, List.set_cons_succ])
            refine wpAny_ready (rs := [18]) (by kernel_rfl) (by simp) ?_
            refine' AllReady.cons ?hivc82 (fun K hK => ?hrvc82) AllReady.nil
            case hivc82 => (simp only [List.getElem?_toArray, List.getElem?_cons_succ, List.getElem?_cons_zero]; rfl)
            have hz : Below u.heap.size u w2 := HBA.out.trans (hb2.mono HBA.out.size)
            have hf := HFIN.out w2 u.heap.size 0 0 a1 a2 c1 c2 m2 (HBU.out.trans (hz.mono (Nat.le_of_eq HSU.out.symm))) (HYA.out.below hb2 HYA.out.lt) (Nat.le_of_eq HSU.out.symm) (HuA.out.next hb2) (ornp hA2 fun k hk => by have := HBA.out.size; have := HSU.out; omega) (ornp hB2 fun k hk => by have := HBA.out.size; have := HSU.out; omega) (OwnK.place hM2 fun k hk => by have a := hM2.2.2 k hk; have := HBA.out.size; have := HSU.out; simp only at a ⊢; omega)
            have HF := Lib.hid hf.2
            refine want_store_run rfl rfl rfl rfl hf.1 (hK _ _ ?_)
            clear hf
            clear hK K
            (try simp only [Act.put, List.setIfInBounds_toArray, List.set_cons_zero, List.set_cons_succ])
            refine' wpAny_take (i := 19) ?hivc83 (by kernel_rfl) (by kernel_rfl) (by kernel_rfl) ?hqvc83 (Or.inl ⟨?hwvc83, ?hyvc83⟩) ?hrvc83
            case hivc83 => (simp only [List.getElem?_toArray, List.getElem?_cons_succ, List.getElem?_cons_zero]; rfl)
            case hqvc83 => exact fun _ _ _ h => h
            case hwvc83 => rfl
            case hyvc83 => (intro w0; go_simp; try with_reducible rfl)
            (try simp only [Act.put, List.setIfInBounds_toArray, List.set_cons_zero, List.set_cons_succ])
            refine' wpAny_take (i := 20) ?hivc84 (by kernel_rfl) (by kernel_rfl) (by kernel_rfl) ?hqvc84 (Or.inl ⟨?hwvc84, ?hyvc84⟩) ?hrvc84
            case hivc84 => (simp only [List.getElem?_toArray, List.getElem?_cons_succ, List.getElem?_cons_zero]; rfl)
            case hqvc84 => exact fun _ _ _ h => h
            case hwvc84 => rfl
            case hyvc84 => (intro w0; go_simp; try with_reducible rfl)
            (try simp only [Act.put, List.setIfInBounds_toArray, List.set_cons_zero, List.set_cons_succ])
            refine wpAny_done (by kernel_rfl) ?_ _
            go_wp2_with fail
            go_meet
            exact ⟨_, _, _, rfl, Nat.le_of_eq HSU.out.symm, HF⟩
  case rest =>
    obtain ⟨Y, la', lb', rfl, hwY, HC⟩ := hcut
    obtain ⟨hY, hXb, hA, hB, hM, hb⟩ := HC.out
    obtain ⟨a1, c1, e1⟩ := OwnK.form hA
    obtain ⟨a2, c2, e2⟩ := OwnK.form hB
    rw [List.length_map] at e1 e2
    rw [← HN1.out] at e1
    rw [← HN2.out] at e2
    subst e1 e2
    have hYc : Blk wc Y 31 #[.string t1, .int .i64 (V.a.k : Int), .slice a1 n1 c1, .int .i64 (V.a.m : Int), .string t2, .int .i64 (V.b.k : Int), .slice a2 n2 c2, .int .i64 (V.b.m : Int), .int .i64 V.use, .int .i64 V.no] := by
      rw [HT1.out, HT2.out]
      exact hY
    have y0 : wc.cell? ⟨Y, 0, none⟩ = some (.string t1) := hYc.cell 0
    have y1 : wc.cell? ⟨Y, 1, none⟩ = some (.int .i64 (V.a.k : Int)) := hYc.cell 1
    have y2 : wc.cell? ⟨Y, 2, none⟩ = some (.slice a1 n1 c1) := hYc.cell 2
    have y3 : wc.cell? ⟨Y, 3, none⟩ = some (.int .i64 (V.a.m : Int)) := hYc.cell 3
    have y4 : wc.cell? ⟨Y, 4, none⟩ = some (.string t2) := hYc.cell 4
    have y5 : wc.cell? ⟨Y, 5, none⟩ = some (.int .i64 (V.b.k : Int)) := hYc.cell 5
    have y6 : wc.cell? ⟨Y, 6, none⟩ = some (.slice a2 n2 c2) := hYc.cell 6
    have y7 : wc.cell? ⟨Y, 7, none⟩ = some (.int .i64 (V.b.m : Int)) := hYc.cell 7
    have y8 : wc.cell? ⟨Y, 8, none⟩ = some (.int .i64 V.use) := hYc.cell 8
    have y9 : wc.cell? ⟨Y, 9, none⟩ = some (.int .i64 V.no) := hYc.cell 9
    have x0 : wc.cell? ⟨X, 0, none⟩ = some (.string (oct.tx v.a.s)) := hXb.cell 0
    have f0 := hXb.frozen 0
    have x1 : wc.cell? ⟨X, 1, none⟩ = some (.int .i64 (v.a.k : Int)) := hXb.cell 1
    have f1 := hXb.frozen 1
    have x2 : wc.cell? ⟨X, 2, none⟩ = some (la) := hXb.cell 2
    have f2 := hXb.frozen 2
    have x3 : wc.cell? ⟨X, 3, none⟩ = some (.int .i64 (v.a.m : Int)) := hXb.cell 3
    have f3 := hXb.frozen 3
    have x4 : wc.cell? ⟨X, 4, none⟩ = some (.string (oct.tx v.b.s)) := hXb.cell 4
    have f4 := hXb.frozen 4
    have x5 : wc.cell? ⟨X, 5, none⟩ = some (.int .i64 (v.b.k : Int)) := hXb.cell 5
    have f5 := hXb.frozen 5
    have x6 : wc.cell? ⟨X, 6, none⟩ = some (lb) := hXb.cell 6
    have f6 := hXb.frozen 6
    have x7 : wc.cell? ⟨X, 7, none⟩ = some (.int .i64 (v.b.m : Int)) := hXb.cell 7
    have f7 := hXb.frozen 7
    have x8 : wc.cell? ⟨X, 8, none⟩ = some (.int .i64 v.use) := hXb.cell 8
    have f8 := hXb.frozen 8
    have x9 : wc.cell? ⟨X, 9, none⟩ = some (.int .i64 v.no) := hXb.cell 9
    have f9 := hXb.frozen 9
    have hne : X ≠ Y := by omega
    have hne' : ¬ Y = X := by omega
    have HXb := Lib.hid hXb
    have HA := Lib.hid hA
    have HB := Lib.hid hB
    have HM := Lib.hid hM
    have HBW := Lib.hid hb
    clear hY hYc hXb hA hB hM hb HC c0 c4
    go_wp2_with fail
    go_ret
    have hT : Turn (· = X) wc ((((((((((wc.setCell ⟨X, 0, none⟩ (.string t1)).setCell ⟨X, 1, none⟩ (.int .i64 (V.a.k : Int))).setCell ⟨X, 2, none⟩ (.slice a1 n1 c1)).setCell ⟨X, 3, none⟩ (.int .i64 (V.a.m : Int))).setCell ⟨X, 4, none⟩ (.string t2)).setCell ⟨X, 5, none⟩ (.int .i64 (V.b.k : Int))).setCell ⟨X, 6, none⟩ (.slice a2 n2 c2)).setCell ⟨X, 7, none⟩ (.int .i64 (V.b.m : Int))).setCell ⟨X, 8, none⟩ (.int .i64 V.use)).setCell ⟨X, 9, none⟩ (.int .i64 V.no)) := (((((((((((Turn.refl (· = X) wc).setCell (p := ⟨X, 0, none⟩) rfl _).setCell (p := ⟨X, 1, none⟩) rfl _).setCell (p := ⟨X, 2, none⟩) rfl _).setCell (p := ⟨X, 3, none⟩) rfl _).setCell (p := ⟨X, 4, none⟩) rfl _).setCell (p := ⟨X, 5, none⟩) rfl _).setCell (p := ⟨X, 6, none⟩) rfl _).setCell (p := ⟨X, 7, none⟩) rfl _).setCell (p := ⟨X, 8, none⟩) rfl _).setCell (p := ⟨X, 9, none⟩) rfl _)
    have hbl := ((((((((((HXb.out.set_ 0 (.string t1)).set_ 1 (.int .i64 (V.a.k : Int))).set_ 2 (.slice a1 n1 c1)).set_ 3 (.int .i64 (V.a.m : Int))).set_ 4 (.string t2)).set_ 5 (.int .i64 (V.b.k : Int))).set_ 6 (.slice a2 n2 c2)).set_ 7 (.int .i64 (V.b.m : Int))).set_ 8 (.int .i64 V.use)).set_ 9 (.int .i64 V.no))
    obtain ⟨w4, hw4⟩ : ∃ u, u = ((((((((((wc.setCell ⟨X, 0, none⟩ (.string t1)).setCell ⟨X, 1, none⟩ (.int .i64 (V.a.k : Int))).setCell ⟨X, 2, none⟩ (.slice a1 n1 c1)).setCell ⟨X, 3, none⟩ (.int .i64 (V.a.m : Int))).setCell ⟨X, 4, none⟩ (.string t2)).setCell ⟨X, 5, none⟩ (.int .i64 (V.b.k : Int))).setCell ⟨X, 6, none⟩ (.slice a2 n2 c2)).setCell ⟨X, 7, none⟩ (.int .i64 (V.b.m : Int))).setCell ⟨X, 8, none⟩ (.int .i64 V.use)).setCell ⟨X, 9, none⟩ (.int .i64 V.no)) := ⟨_, rfl⟩
    rw [← hw4] at hT hbl
    rw [← hw4]
    simp only [vcl, List.setIfInBounds_toArray, List.set_cons_zero, List.set_cons_succ] at hbl
    have HBL := Lib.hid hbl
    have HTT := Lib.hid hT
    clear hbl hT hw4
    have hbk : Blk w4 X 31 (vcl V (.slice a1 n1 c1) (.slice a2 n2 c2)) := by
      unfold vcl
      rw [← HT1.out, ← HT2.out]
      exact HBL.out
    have hVX : VX w4 (w.heap.size ≤ ·) X V (.slice a1 n1 c1) (.slice a2 n2 c2) := ⟨hbk, ornt HA.out HTT.out fun k hk _ e => by omega, ornt HB.out HTT.out fun k hk _ e => by omega, by omega⟩
    have hO : OwnT w4 (w.heap.size ≤ ·) u4 M := OwnK.turn HM.out HTT.out fun k hk e => by
      have := HM.out.2.2 k hk
      simp only at this
      omega
    have hTF : Turn (fun k => k = X ∨ w.heap.size ≤ k) w w4 := ((Turn.ofBelow HBW.out).mono fun k hk => .inr hk).trans (HTT.out.mono fun k hk => .inl hk)
    exact ⟨_, rfl, ⟨_, _, hVX⟩, hO, hTF⟩
end Go.Proofs.YtkbbeioednhefaaGreatDoor.vt
