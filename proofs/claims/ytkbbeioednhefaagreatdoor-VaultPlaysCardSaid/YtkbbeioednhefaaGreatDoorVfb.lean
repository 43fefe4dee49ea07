/-
  petrelref13.Load; a Vault as ten cells.
-/
import Derived.Test.YtkbbeioednhefaaGreatDoorVfa
import Derived.Test.YtkbbeioednhefaaGreatDoorJnr
namespace Go.Proofs.YtkbbeioednhefaaGreatDoor.vt
open Go.RowKit Go.Proofs.YtkbbeioednhefaaGreatDoor.mem Go.Proofs.YtkbbeioednhefaaGreatDoor.sha Go.Proofs.YtkbbeioednhefaaGreatDoor.strx Go.Proofs.YtkbbeioednhefaaGreatDoor.rows Go.Proofs.YtkbbeioednhefaaGreatDoor.ids Go.Proofs.YtkbbeioednhefaaGreatDoor.rcd Go.Proofs.YtkbbeioednhefaaGreatDoor.jn Go.Proofs.YtkbbeioednhefaaGreatDoor.txl

/-- a Vault's ten cells, its lists at la, lb -/
def vcl (v : Vt) (la lb : Value) : Array Value := #[.string (oct.tx v.a.s), .int .i64 (v.a.k : Int), la, .int .i64 (v.a.m : Int), .string (oct.tx v.b.s), .int .i64 (v.b.k : Int), lb, .int .i64 (v.b.m : Int), .int .i64 v.use, .int .i64 v.no]
def zvcl : Array Value := vcl zvt (.slice none 0 0) (.slice none 0 0)
theorem info_vt : (Tryz.prog.info? 31).map (·.size) = some 10 := by kernel_rfl
/-- a struct loaded whole, stored whole -/
theorem load_blk {w : World} {g : Nat} {t ty : TypeId} {cs : Array Value} {fs : Array Field} (hg : Blk w g t cs) (hu : Tryz.prog.underlying ty = some (.struct fs)) (hi : (Tryz.prog.info? ty).map (·.size) = some cs.size) :
    (Instr.loadAt ty (.pointer (some ⟨g, 0, none⟩))).run Tryz.prog w = .ok (.agg cs) w := by
  have := run_loadVar_row w g t ty cs (0, 0) (.struct fs) hg hu rfl hi
  simp [Instr.loadAt, Instr.sureAddr, this]
theorem store_blk {w : World} {g : Nat} {t ty : TypeId} {old cs : Array Value} (hg : Blk w g t old) (hi : (Tryz.prog.info? ty).map (·.size) = some cs.size) (ho : old.size = cs.size) (h1 : cs.all (·.oneCell') = true) :
    (Instr.storeAt ty (.pointer (some ⟨g, 0, none⟩)) (.agg cs)).run Tryz.prog w = .ok () (w.setRow g cs) := by
  have := run_storeVar_row (P := Tryz.prog) w g t ty old cs hg hi ho h1
  simp [Instr.storeAt, Instr.sureAddr, this]
theorem row_turn (w : World) (g : Nat) (cs : Array Value) : Turn (· = g) w (w.setRow g cs) := ⟨rfl, rfl, rfl, by simp [World.setRow], fun k hk => setRow_other w g k _ hk⟩
theorem want_load_run {P : Program} {ops : Array Oper} {o : Oper} {a : Act} {w : World} {K : Act → World → Prop} {Q : Exit → Act → World → Prop} {E : Prop} {t : TypeId} {x : Operand} {p v : Value} (hg : o.guard = none)
    (ho : o.op = .load t x) (hx : a.eval x = p) (h : (Instr.loadAt t p).run P w = .ok v w) (hK : K (a.put o.dst v) w) :
    if Region.wanted o (yielded ops a.tmps) = true then Oper.wp P o a w K Q else E := by
  have hw : Region.wanted o (yielded ops a.tmps) = true := by simp [Region.wanted, hg]
  rw [if_pos hw]
  unfold Oper.wp
  rw [run_exec_load ho hx h]
  exact hK
theorem results_vt {fn : Func} {p q q2 : Tmp} (h : fn.results = #[.cell p 31, .tmp q, .tmp q2]) (tmps : Array Value) (w : World) (g : Nat) (cs : Array Value) (hs : cs.size = 10)
    (hp : tmps.getD p undef = .pointer (some ⟨g, 0, none⟩)) (hg : Blk w g 31 cs) :
    (results fn tmps).run Tryz.prog w = .ok (.tuple #[.agg cs, tmps.getD q undef, tmps.getD q2 undef]) w := by
  have hp' : tmps[p]?.getD undef = .pointer (some ⟨g, 0, none⟩) := by simpa using hp
  have hl := run_loadVar_row w g 31 31 cs (0, 0) _ hg Tryz.underlying31 rfl (by rw [info_vt, hs])
  simp [results, h, hp', asAddr, hl]
theorem vcl_one {v : Vt} {la lb : Value} (ha : la.oneCell' = true) (hb : lb.oneCell' = true) : (vcl v la lb).all (·.oneCell') = true := by
  rw [Array.all_eq_true_iff_forall_mem]
  intro u hu
  simp only [vcl, List.mem_toArray, List.mem_cons, List.not_mem_nil, or_false] at hu
  rcases hu with rfl | rfl | rfl | rfl | rfl | rfl | rfl | rfl | rfl | rfl <;> first | rfl | assumption
theorem numV_lt (L : List Rc) : -1 ≤ numV L ∧ numV L < 4294967296 := by
  cases L with
  | nil => exact ⟨Int.le_refl _, by decide⟩
  | cons r t =>
    have h := opn.rdN4_lt (r.body, 0)
    have h2 := opn.rdN_nonneg 4 (r.body, 0)
    have e : numV (r :: t) = (if r.k ≠ 1 then (-1 : Int) else if opn.endE (opn.rdN 4 (r.body, 0)).2 ≠ 0 then -1 else if (r :: t).any (fun x => decide (x.k = 2)) = true then (opn.rdN 4 (r.body, 0)).1 else -1) := rfl
    rw [e]
    split
    · omega
    · split
      · omega
      · split <;> omega
theorem ornx {w w' : World} {F : Nat → Prop} {v : Value} {L : List Rc} (h : OwnR w F v L) (hb : Below w.heap.size w w') : OwnR w' F v L := OwnK.next h hb

/-- what Load tells -/
def LoadAns (w : World) (s t : List UInt8) (e : Ending) (w' : World) : Prop :=
  ∃ la lb m, e = .returned (.tuple #[.agg (vcl (loadV s t).1 la lb), m, .int .i64 (loadV s t).2.2]) ∧ OwnR w' (w.heap.size ≤ ·) la (loadV s t).1.a.l ∧ OwnR w' (w.heap.size ≤ ·) lb (loadV s t).1.b.l ∧ OwnT w' (w.heap.size ≤ ·) m (loadV s t).2.1 ∧ Below w.heap.size w w'
set_option maxHeartbeats 8000000 in
set_option maxRecDepth 100000 in
theorem load_ref (s t : ByteArray) (hs : s.size ≤ 800000) (ht : t.size ≤ 800000) (w : World) :
    Calls Tryz.prog 22 #[.string s, .string t] w (LoadAns w s.data.toList t.data.toList) := by
  have HO1 := Lib.hid fun u => open_ref s hs u
  have HO2 := Lib.hid fun u => open_ref t ht u
  obtain ⟨ss, hss⟩ : ∃ l, l = s.data.toList := ⟨_, rfl⟩
  obtain ⟨tt, htt⟩ : ∃ l, l = t.data.toList := ⟨_, rfl⟩
  have hsl : ss.length ≤ 800000 := by rw [hss, ← size_list]; exact hs
  have htl : tt.length ≤ 800000 := by rw [htt, ← size_list]; exact ht
  have hrs := openJ_recs ss
  have hrt := openJ_recs tt
  have hfs : (openJ ss).l.length ≤ 100000 := by have := allR_few ss.length ss; have h2 : (openJ ss).l = (allR ss.length ss).1 := rfl; rw [h2]; omega
  have hft : (openJ tt).l.length ≤ 100000 := by have := allR_few tt.length tt; have h2 : (openJ tt).l = (allR tt.length tt).1 := rfl; rw [h2]; omega
  rw [← hss] at HO1 ⊢
  rw [← htt] at HO2 ⊢
  unfold jcells at HO1 HO2
  have hld : loadV ss tt = if noneV (openJ ss) (openJ tt) then (zvt, [], 4) else (pickV (openJ ss) (openJ tt), heldV (pickV (openJ ss) (openJ tt)).cur.l, 0) := rfl
  obtain ⟨A, hA⟩ : ∃ A, A = openJ ss := ⟨_, rfl⟩
  obtain ⟨B, hB⟩ : ∃ B, B = openJ tt := ⟨_, rfl⟩
  rw [← hA] at HO1 hld hfs
  rw [← hB] at HO2 hld hft
  obtain ⟨ta, hta⟩ : ∃ x, x = oct.tx A.s := ⟨_, rfl⟩
  obtain ⟨tb, htb⟩ : ∃ x, x = oct.tx B.s := ⟨_, rfl⟩
  rw [← hta] at HO1
  rw [← htb] at HO2
  have HTA := Lib.hid hta
  have HTB := Lib.hid htb
  obtain ⟨x, hx⟩ : ∃ x, x = numV A.l := ⟨_, rfl⟩
  obtain ⟨y, hy⟩ : ∃ y, y = numV B.l := ⟨_, rfl⟩
  have hNA := fun u v h => number_ref (v := v) (L := A.l) (w := u) h (by omega)
  have hNB := fun u v h => number_ref (v := v) (L := B.l) (w := u) h (by omega)
  rw [← hx] at hNA
  rw [← hy] at hNB
  have HNA := Lib.hid hNA
  have HNB := Lib.hid hNB
  have HHA := Lib.hid fun u v h => held_ref (v := v) (L := A.l) (w := u) h (by omega)
  have HHB := Lib.hid fun u v h => held_ref (v := v) (L := B.l) (w := u) h (by omega)
  have hx1 := (numV_lt A.l).1
  have hy1 := (numV_lt B.l).1
  rw [← hx] at hx1
  rw [← hy] at hy1
  have HX := Lib.hid hx
  have HY := Lib.hid hy
  obtain ⟨R, hR⟩ : ∃ R, R = w.heap.size := ⟨_, rfl⟩
  have hb1 : Below w.heap.size w (w.alloc (.cells zvcl 31)) := (Below.refl _ w).alloc (Nat.le_refl _) _
  have hBR := Blk.at_ hR.symm 31 zvcl
  have hz1 : (w.alloc (.cells zvcl 31)).heap.size = R + 1 := by rw [hR]; simp
  obtain ⟨w1, hw1⟩ : ∃ u, u = w.alloc (.cells zvcl 31) := ⟨_, rfl⟩
  rw [← hw1] at hb1 hBR hz1
  have hw1' : w1 = w.alloc (.cells #[.string ⟨#[]⟩, .int .i64 0, .slice none 0 0, .int .i64 0, .string ⟨#[]⟩, .int .i64 0, .slice none 0 0, .int .i64 0, .int .i64 0, .int .i64 0] 31) := hw1
  have HW1 := Lib.hid hw1'
  have HB1 := Lib.hid hb1
  have HBR := Lib.hid hBR
  have HRR := Lib.hid hR
  have HLD := Lib.hid hld
  clear hss htt hsl htl hrs hrt hfs hft hld hA hB hta htb hx hy hNA hNB hb1 hBR hw1 hw1' hs ht
  go_enter Tryz.func22, Tryz.ntmps22
  go_upto_region 1 with fail
  rw [← HW1.out, ← HRR.out]
  clear hR HW1
  go_upto_region 2 with (first
    | (go_at_call 43; (with_reducible refine (HO1.out _).mono ?_); rintro e w2 ⟨va, rfl, hO2, hb2⟩; obtain ⟨aa, ca, hva0⟩ := OwnK.form hO2; rw [List.length_map] at hva0; subst hva0; have HOA := Lib.hid hO2; have HB2 := Lib.hid hb2; clear hO2 hb2)
    | (go_at_call 43; (with_reducible refine (HO2.out _).mono ?_); rintro e w3 ⟨vb, rfl, hO3, hb3⟩; obtain ⟨ab, cb, hvb0⟩ := OwnK.form hO3; rw [List.length_map] at hvb0; subst hvb0; have HOB := Lib.hid hO3; have HB3 := Lib.hid hb3; clear hO3 hb3))
  obtain ⟨V, hV⟩ : ∃ V, V = w3.heap.size := ⟨_, rfl⟩
  have hbV : Below w3.heap.size w3 (w3.alloc (.cells #[.string ta, .int .i64 (A.k : Int), (Value.slice aa A.l.length ca), .int .i64 (A.m : Int), .string tb, .int .i64 (B.k : Int), (Value.slice ab B.l.length cb), .int .i64 (B.m : Int), .int .i64 0, .int .i64 0] 31)) := (Below.refl _ _).alloc (Nat.le_refl _) _
  have hBV := Blk.at_ hV.symm 31 #[.string ta, .int .i64 (A.k : Int), (Value.slice aa A.l.length ca), .int .i64 (A.m : Int), .string tb, .int .i64 (B.k : Int), (Value.slice ab B.l.length cb), .int .i64 (B.m : Int), .int .i64 0, .int .i64 0]
  obtain ⟨w4, hw4⟩ : ∃ u, u = w3.alloc (.cells #[.string ta, .int .i64 (A.k : Int), (Value.slice aa A.l.length ca), .int .i64 (A.m : Int), .string tb, .int .i64 (B.k : Int), (Value.slice ab B.l.length cb), .int .i64 (B.m : Int), .int .i64 0, .int .i64 0] 31) := ⟨_, rfl⟩
  rw [← hw4] at hbV hBV
  rw [← hw4, ← hV]
  have hs1 := HB1.out.size
  have hs2 := HB2.out.size
  have hs3 := HB3.out.size
  have HB13 := Lib.hid (show Below R w w3 from ((HRR.out ▸ HB1.out : Below R w w1).trans (HB2.out.mono (by omega))).trans (HB3.out.mono (by omega)))
  have hOA4 : OwnR w4 (R ≤ ·) (Value.slice aa A.l.length ca) A.l := ((OwnK.next (OwnK.next HOA.out HB3.out) hbV)).place fun k hk => by have := HOA.out.2.2 k hk; simp only at this ⊢; omega
  have hOB4 : OwnR w4 (R ≤ ·) (Value.slice ab B.l.length cb) B.l := (OwnK.next HOB.out hbV).place fun k hk => by have := HOB.out.2.2 k hk; simp only at this ⊢; omega
  have hVA : ∀ k, ((Value.slice aa A.l.length ca)).ownBlock = some k → k < V := fun k hk => by have := OwnK.lt HOA.out hk; omega
  have hVB : ∀ k, ((Value.slice ab B.l.length cb)).ownBlock = some k → k < V := fun k hk => by have := OwnK.lt HOB.out hk; omega
  have hRA : ∀ k, ((Value.slice aa A.l.length ca)).ownBlock = some k → k ≠ R := fun k hk => by have := HOA.out.2.2 k hk; simp only at this; omega
  have hRB : ∀ k, ((Value.slice ab B.l.length cb)).ownBlock = some k → k ≠ R := fun k hk => by have := HOB.out.2.2 k hk; simp only at this; omega
  have hRV : R ≠ V := by omega
  have HRV := Lib.hid (show R ≠ V ∧ R ≤ V from ⟨hRV, by omega⟩)
  have hB4 : Below R w w4 := HB13.out.trans (hbV.mono (by omega))
  have hBR4 : Blk w4 R 31 zvcl := HBR.out.below (B := w1.heap.size) (((HB2.out.mono (Nat.le_refl _)).trans (HB3.out.mono (by omega))).trans (hbV.mono (by omega))) (by omega)
  have HVA := Lib.hid hVA
  have HVB := Lib.hid hVB
  have HRA := Lib.hid hRA
  have HRB := Lib.hid hRB
  have HB4 := Lib.hid hB4
  have HBR4 := Lib.hid hBR4
  have HBV4 := Lib.hid hBV
  have HOA4 := Lib.hid hOA4
  have HOB4 := Lib.hid hOB4
  have c2 : w4.cell? ⟨V, 2, none⟩ = some (Value.slice aa A.l.length ca) := hBV.cell 2
  have hva : ((Value.slice aa A.l.length ca)).oneCell' = true := by obtain ⟨_, _, e⟩ := OwnK.form hOA4; rw [e]; rfl
  have hvb : ((Value.slice ab B.l.length cb)).oneCell' = true := by obtain ⟨_, _, e⟩ := OwnK.form hOB4; rw [e]; rfl
  have HVO := Lib.hid (show ((Value.slice aa A.l.length ca)).oneCell' = true ∧ ((Value.slice ab B.l.length cb)).oneCell' = true from ⟨hva, hvb⟩)
  clear hbV hBV hOA4 hOB4 hVA hVB hRA hRB hB4 hBR4 hs1 hs2 hs3 hw4 hV HOA HOB HB2 HB3 HBR hva hvb
  go_upto_region 4 with (first
    | (go_at_call 44; (with_reducible refine (HNA.out _ _ (OwnR.rcv HOA4.out)).mono ?_); rintro e w5 ⟨rfl, hb5⟩; have hBV5 := HBV4.out.below hb5 HBV4.out.lt; have c6 : w5.cell? ⟨V, 6, none⟩ = some (Value.slice ab B.l.length cb) := hBV5.cell 6; have HBV5 := Lib.hid hBV5; have HB5 := Lib.hid hb5; clear hb5 hBV5)
    | (go_at_call 44; (with_reducible refine (HNB.out _ _ (OwnR.rcv (ornx HOB4.out HB5.out))).mono ?_); rintro e w6 ⟨rfl, hb6⟩; have HB6 := Lib.hid hb6; clear hb6))
  have hB46 : Below w4.heap.size w4 w6 := HB5.out.trans (HB6.out.mono HB5.out.size)
  have hBV6 := HBV4.out.below hB46 HBV4.out.lt
  have hBR6 := HBR4.out.below hB46 HBR4.out.lt
  have hB6 : Below R w w6 := HB4.out.trans (hB46.mono HB4.out.size |> fun h => by have hl := HBR4.out.lt; exact ⟨h.os, h.tape, h.output, h.size, fun k hk => hB46.block k (by omega)⟩)
  have HOA6 := Lib.hid (OwnK.next HOA4.out hB46)
  have HOB6 := Lib.hid (OwnK.next HOB4.out hB46)
  have HB6W := Lib.hid hB6
  have HBV6 := Lib.hid hBV6
  have HBR6 := Lib.hid hBR6
  clear hB46 hBV6 hBR6 hB6 c2 c6 HNA HNB HO1 HO2
  by_cases hno : x < 0 ∧ y < 0
  · obtain ⟨hx0, hy0⟩ := hno
    have hE : loadV ss tt = (zvt, [], 4) := by rw [HLD.out, if_pos (by unfold noneV; rw [← HX.out, ← HY.out]; exact ⟨hx0, hy0⟩)]
    have HE := Lib.hid hE
    have hst := store_blk (ty := 31) (cs := zvcl) HBR6.out (by rw [info_vt]; rfl) rfl (vcl_one rfl rfl)
    have hst' : (Instr.storeAt 31 (.pointer (some ⟨R, 0, none⟩)) (.agg #[.string ⟨#[]⟩, .int .i64 0, .slice none 0 0, .int .i64 0, .string ⟨#[]⟩, .int .i64 0, .slice none 0 0, .int .i64 0, .int .i64 0, .int .i64 0])).run Tryz.prog w6 = .ok () (w6.setRow R zvcl) := hst
    clear hE hst
    go_wp2_with ((with_reducible refine step_store_run (t := 31) (x := .tmp 4) (y := .tmp 29) (p := ?spva) (v := ?svva) (w' := ?swva) ?sgva ?sova ?sxva ?syva ?srva ?shva); (case sgva => rfl); (case sova => rfl); (case sxva => rfl); (case syva => rfl); (case srva => exact hst'))
    refine bodyPost_ret (results_vt rfl _ _ R zvcl rfl rfl (setRow_heap _ _ _ _ _ _ HBR6.out)) rfl ⟨.slice none 0 0, .slice none 0 0, .slice none 0 0, by rw [HE.out]; rfl, ?_, ?_, ?_, ?_⟩
    · rw [HE.out]; exact OwnK.nil _ _ _ _
    · rw [HE.out]; exact OwnK.nil _ _ _ _
    · rw [HE.out]; exact OwnK.nil _ _ _ _
    · rw [← HRR.out]
      exact HB6W.out.trans ((row_turn w6 R zvcl).below fun k hk => by omega)
  have hLN : ¬ noneV A B := by unfold noneV; rw [← HX.out, ← HY.out]; exact hno
  have HLN := Lib.hid (show loadV ss tt = (pickV A B, heldV (pickV A B).cur.l, 0) by rw [HLD.out, if_neg hLN])
  have f8 := HBV6.out.frozen 8
  have f9 := HBV6.out.frozen 9
  have c8 : w6.cell? ⟨V, 8, none⟩ = some (.int .i64 0) := HBV6.out.cell 8
  have c9 : w6.cell? ⟨V, 9, none⟩ = some (.int .i64 0) := HBV6.out.cell 9
  clear hLN HLD
  by_cases hyx : x < y
  · have hy0 : ¬ y < 0 := by omega
    have HPK := Lib.hid (show pickV A B = ⟨A, B, 1, y⟩ by unfold pickV; rw [← HX.out, ← HY.out, if_pos hyx])
    have hXX : ¬ (x < 0 ∧ y < 0) := hno
    clear hno
    by_cases hx0 : x < 0
    · skip
      go_upto_region 10 with fail
      obtain ⟨w7, hw7⟩ : ∃ u, u = (((w6.setCell ⟨V, 9, none⟩ (.int .i64 x)).setCell ⟨V, 8, none⟩ (.int .i64 1)).setCell ⟨V, 9, none⟩ (.int .i64 y)) := ⟨_, rfl⟩
      rw [← hw7]
      have hT7 : Turn (· = V) w6 w7 := by rw [hw7]; exact (((Turn.refl (· = V) w6).setCell (p := ⟨V, 9, none⟩) rfl _).setCell (p := ⟨V, 8, none⟩) rfl _).setCell (p := ⟨V, 9, none⟩) rfl _
      have hBV7 : Blk w7 V 31 (vcl ⟨A, B, 1, y⟩ (Value.slice aa A.l.length ca) (Value.slice ab B.l.length cb)) := by
        have := ((HBV6.out.set_ 9 (.int .i64 x)).set_ 8 (.int .i64 1)).set_ 9 (.int .i64 y)
        rw [hw7]
        unfold vcl
        rw [← HTA.out, ← HTB.out]
        exact this
      have hBR7 := Blk.turn HBR6.out hT7 hRV
      have hOA7 : OwnR w7 (R ≤ ·) (Value.slice aa A.l.length ca) A.l := OwnK.turn HOA6.out hT7 fun k hk h => by have := HVA.out k hk; omega
      have hOB7 : OwnR w7 (R ≤ ·) (Value.slice ab B.l.length cb) B.l := OwnK.turn HOB6.out hT7 fun k hk h => by have := HVB.out k hk; omega
      have hlt := HBR6.out.lt
      have HB7 : Hid (Below R w w7) := Lib.hid (HB6W.out.trans (hT7.below (B := R) fun k hk => by have := HB13.out.size; rw [hk]; have h1 := HBV6.out.lt; have h2 := HRV.out; omega))
      obtain ⟨u, hu⟩ : ∃ u, u = w7.drew := ⟨_, rfl⟩
      have hd : Below w7.heap.size w7 u := by rw [hu]; exact (Below.refl _ _).drew
      have hBVu := hBV7.below hd hBV7.lt
      have hBRu := hBR7.below hd hBR7.lt
      have hOAu := OwnK.next hOA7 hd
      have hOBu := OwnK.next hOB7 hd
      have hBu := HB7.out.trans (hd.mono (by have := hBR7.lt; omega))
      have hl0 := load_blk hBVu Tryz.underlying31 (by rw [info_vt]; rfl)
      have HL0 := Lib.hid hl0
      have cl : u.cell? ⟨V, 6, none⟩ = some (Value.slice ab B.l.length cb) := hBVu.cell 6
      have HBVu := Lib.hid hBVu
      have HBRu := Lib.hid hBRu
      have HOAu := Lib.hid hOAu
      have HOBu := Lib.hid hOBu
      have HBu := Lib.hid hBu
      have HHE := Lib.hid (HHB.out u _ (OwnR.rcv HOBu.out))
      have HHS : Hid (∀ u2, Below u.heap.size u u2 → (Instr.loadAt 31 (.pointer (some ⟨V, 0, none⟩))).run Tryz.prog u2 = .ok (.agg (vcl ⟨A, B, 1, y⟩ (Value.slice aa A.l.length ca) (Value.slice ab B.l.length cb))) u2 ∧ (Instr.storeAt 31 (.pointer (some ⟨R, 0, none⟩)) (.agg (vcl ⟨A, B, 1, y⟩ (Value.slice aa A.l.length ca) (Value.slice ab B.l.length cb)))).run Tryz.prog u2 = .ok () (u2.setRow R (vcl ⟨A, B, 1, y⟩ (Value.slice aa A.l.length ca) (Value.slice ab B.l.length cb)))) := Lib.hid fun u2 hb2 =>
        ⟨load_blk (HBVu.out.below hb2 HBVu.out.lt) Tryz.underlying31 (by rw [info_vt]; rfl), store_blk (HBRu.out.below hb2 HBRu.out.lt) (by rw [info_vt]; rfl) rfl (vcl_one HVO.out.1 HVO.out.2)⟩
      have HFIN : Hid (∀ (u2 : World) (m : Value) (e : Ending), Below u.heap.size u u2 → OwnT u2 (u.heap.size ≤ ·) m (heldV B.l) → e = .returned (.tuple #[.agg (vcl ⟨A, B, 1, y⟩ (Value.slice aa A.l.length ca) (Value.slice ab B.l.length cb)), m, .int .i64 0]) → LoadAns w ss tt e (u2.setRow R (vcl ⟨A, B, 1, y⟩ (Value.slice aa A.l.length ca) (Value.slice ab B.l.length cb)))) := Lib.hid fun u2 m e hb2 hm he => by
        have hrt := row_turn u2 R (vcl ⟨A, B, 1, y⟩ (Value.slice aa A.l.length ca) (Value.slice ab B.l.length cb))
        refine ⟨(Value.slice aa A.l.length ca), (Value.slice ab B.l.length cb), m, by rw [HLN.out, HPK.out]; exact he, ?_, ?_, ?_, ?_⟩
        · rw [HLN.out, HPK.out, ← HRR.out]
          exact OwnK.turn (OwnK.next HOAu.out hb2) hrt HRA.out
        · rw [HLN.out, HPK.out, ← HRR.out]
          exact OwnK.turn (OwnK.next HOBu.out hb2) hrt HRB.out
        · rw [HLN.out, HPK.out, ← HRR.out]
          have hle := HBRu.out.lt
          exact (OwnK.turn hm hrt fun k hk h => by have := hm.2.2 k hk; simp only at this; omega).place fun k hk => by have := hm.2.2 k hk; simp only at this ⊢; omega
        · rw [← HRR.out]
          exact (HBu.out.trans (hb2.mono (by have := HBRu.out.lt; omega))).trans (hrt.below fun k hk => by omega)
      have HBLK : Hid (∀ u2, Below u.heap.size u u2 → Blk (u2.setRow R (vcl ⟨A, B, 1, y⟩ (Value.slice aa A.l.length ca) (Value.slice ab B.l.length cb))) R 31 (vcl ⟨A, B, 1, y⟩ (Value.slice aa A.l.length ca) (Value.slice ab B.l.length cb))) := Lib.hid fun u2 hb2 => setRow_heap _ _ _ _ _ _ (HBRu.out.below hb2 HBRu.out.lt)
      refine wp_region_any (by kernel_rfl) (show wpAny Tryz.prog _ _ _ _ _ _ w7.drew from ?_)
      rw [← hu]
      clear hu hw7 hT7 hBV7 hBR7 hOA7 hOB7 hd hBVu hBRu hOAu hOBu hBu hl0 hlt
      refine' wpAny_take (i := 1) ?hivb1 (by kernel_rfl) (by kernel_rfl) (by kernel_rfl) ?hqvb1 (Or.inl ⟨?hwvb1, ?hyvb1⟩) ?hrvb1
      case hivb1 => (simp only [List.getElem?_toArray, List.getElem?_cons_succ, List.getElem?_cons_zero]; rfl)
      case hqvb1 => exact fun _ _ _ h => h
      case hwvb1 => rfl
      case hyvb1 => (intro w0; go_simp; try with_reducible rfl)
      (try simp only [Act.put, List.setIfInBounds_toArray, List.set_cons_zero, List.set_cons_succ])
      refine' wpAny_take (i := 2) ?hivb2 (by kernel_rfl) (by kernel_rfl) (by kernel_rfl) ?hqvb2 (Or.inl ⟨?hwvb2, ?hyvb2⟩) ?hrvb2
      case hivb2 => (simp only [List.getElem?_toArray, List.getElem?_cons_succ, List.getElem?_cons_zero]; rfl)
      case hqvb2 => exact fun _ _ _ h => h
      case hwvb2 => rfl
      case hyvb2 => (intro w0; go_simp; try with_reducible rfl)
      (try simp only [Act.put, List.setIfInBounds_toArray, List.set_cons_zero, List.set_cons_succ])
      refine wpAny_ready (rs := [0, 3]) (by kernel_rfl) (by simp) ?_
      refine' AllReady.cons ?havb17 (fun K hK => ?hcvb17) (AllReady.cons ?hbvb17 (fun K hK => ?hdvb17) AllReady.nil)
      case havb17 => (simp only [List.getElem?_toArray, List.getElem?_cons_succ, List.getElem?_cons_zero]; rfl)
      case hbvb17 => (simp only [List.getElem?_toArray, List.getElem?_cons_succ, List.getElem?_cons_zero]; rfl)
      case hcvb17 =>
        refine want_load_run rfl rfl rfl HL0.out (hK _ _ ?_)
        clear hK K
        (try simp only [Act.put, List.setIfInBounds_toArray, List.set_cons_zero, List.set_cons_succ])
        refine wpAny_ready (rs := [3]) (by kernel_rfl) (by simp) ?_
        refine' AllReady.cons ?hivb3 (fun K hK => ?hrvb3) AllReady.nil
        case hivb3 => (simp only [List.getElem?_toArray, List.getElem?_cons_succ, List.getElem?_cons_zero]; rfl)
        go_simp
        refine hK _ _ ?_
        clear hK K
        (try simp only [Act.put, List.setIfInBounds_toArray, List.set_cons_zero, List.set_cons_succ])
        refine wpAny_ready (rs := [4]) (by kernel_rfl) (by simp) ?_
        refine' AllReady.cons ?hivb4 (fun K hK => ?hrvb4) AllReady.nil
        case hivb4 => (simp only [List.getElem?_toArray, List.getElem?_cons_succ, List.getElem?_cons_zero]; rfl)
        go_simp
        (refine HHE.out.mono ?_; rintro e w8 ⟨mm, rfl, hO8, hb8⟩)
        refine hK _ _ ?_
        clear hK K
        (try simp only [Act.put, List.setIfInBounds_toArray, List.set_cons_zero, List.set_cons_succ])
        refine wpAny_ready (rs := [5]) (by kernel_rfl) (by simp) ?_
        refine' AllReady.cons ?hivb5 (fun K hK => ?hrvb5) AllReady.nil
        case hivb5 => (simp only [List.getElem?_toArray, List.getElem?_cons_succ, List.getElem?_cons_zero]; rfl)
        refine want_store_run rfl rfl rfl rfl (HHS.out _ hb8).2 (hK _ _ ?_)
        clear hK K
        (try simp only [Act.put, List.setIfInBounds_toArray, List.set_cons_zero, List.set_cons_succ])
        refine' wpAny_take (i := 6) ?hivb6 (by kernel_rfl) (by kernel_rfl) (by kernel_rfl) ?hqvb6 (Or.inl ⟨?hwvb6, ?hyvb6⟩) ?hrvb6
        case hivb6 => (simp only [List.getElem?_toArray, List.getElem?_cons_succ, List.getElem?_cons_zero]; rfl)
        case hqvb6 => exact fun _ _ _ h => h
        case hwvb6 => rfl
        case hyvb6 => (intro w0; go_simp; try with_reducible rfl)
        (try simp only [Act.put, List.setIfInBounds_toArray, List.set_cons_zero, List.set_cons_succ])
        refine' wpAny_take (i := 7) ?hivb7 (by kernel_rfl) (by kernel_rfl) (by kernel_rfl) ?hqvb7 (Or.inl ⟨?hwvb7, ?hyvb7⟩) ?hrvb7
        case hivb7 => (simp only [List.getElem?_toArray, List.getElem?_cons_succ, List.getElem?_cons_zero]; rfl)
        case hqvb7 => exact fun _ _ _ h => h
        case hwvb7 => rfl
        case hyvb7 => (intro w0; go_simp; try with_reducible rfl)
        (try simp only [Act.put, List.setIfInBounds_toArray, List.set_cons_zero, List.set_cons_succ])
        refine wpAny_done (by kernel_rfl) ?_ _
        go_wp2_with fail
        refine bodyPost_ret (results_vt rfl _ _ R _ rfl rfl (HBLK.out _ hb8)) rfl ?_
        exact HFIN.out _ mm _ hb8 hO8 rfl
      case hdvb17 =>
        go_simp
        refine hK _ _ ?_
        clear hK K
        (try simp only [Act.put, List.setIfInBounds_toArray, List.set_cons_zero, List.set_cons_succ])
        refine wpAny_ready (rs := [0, 4]) (by kernel_rfl) (by simp) ?_
        refine' AllReady.cons ?havb16 (fun K hK => ?hcvb16) (AllReady.cons ?hbvb16 (fun K hK => ?hdvb16) AllReady.nil)
        case havb16 => (simp only [List.getElem?_toArray, List.getElem?_cons_succ, List.getElem?_cons_zero]; rfl)
        case hbvb16 => (simp only [List.getElem?_toArray, List.getElem?_cons_succ, List.getElem?_cons_zero]; rfl)
        case hcvb16 =>
          refine want_load_run rfl rfl rfl HL0.out (hK _ _ ?_)
          clear hK K
          (try simp only [Act.put, List.setIfInBounds_toArray, List.set_cons_zero, List.set_cons_succ])
          refine wpAny_ready (rs := [4]) (by kernel_rfl) (by simp) ?_
          refine' AllReady.cons ?hivb8 (fun K hK => ?hrvb8) AllReady.nil
          case hivb8 => (simp only [List.getElem?_toArray, List.getElem?_cons_succ, List.getElem?_cons_zero]; rfl)
          go_simp
          (refine HHE.out.mono ?_; rintro e w8 ⟨mm, rfl, hO8, hb8⟩)
          refine hK _ _ ?_
          clear hK K
          (try simp only [Act.put, List.setIfInBounds_toArray, List.set_cons_zero, List.set_cons_succ])
          refine wpAny_ready (rs := [5]) (by kernel_rfl) (by simp) ?_
          refine' AllReady.cons ?hivb9 (fun K hK => ?hrvb9) AllReady.nil
          case hivb9 => (simp only [List.getElem?_toArray, List.getElem?_cons_succ, List.getElem?_cons_zero]; rfl)
          refine want_store_run rfl rfl rfl rfl (HHS.out _ hb8).2 (hK _ _ ?_)
          clear hK K
          (try simp only [Act.put, List.setIfInBounds_toArray, List.set_cons_zero, List.set_cons_succ])
          refine' wpAny_take (i := 6) ?hivb10 (by kernel_rfl) (by kernel_rfl) (by kernel_rfl) ?hqvb10 (Or.inl ⟨?hwvb10, ?hyvb10⟩) ?hrvb10
          case hivb10 => (simp only [List.getElem?_toArray, List.getElem?_cons_succ, List.getElem?_cons_zero]; rfl)
          case hqvb10 => exact fun _ _ _ h => h
          case hwvb10 => rfl
          case hyvb10 => (intro w0; go_simp; try with_reducible rfl)
          (try simp only [Act.put, List.setIfInBounds_toArray, List.set_cons_zero, List.set_cons_succ])
          refine' wpAny_take (i := 7) ?hivb11 (by kernel_rfl) (by kernel_rfl) (by kernel_rfl) ?hqvb11 (Or.inl ⟨?hwvb11, ?hyvb11⟩) ?hrvb11
          case hivb11 => (simp only [List.getElem?_toArray, List.getElem?_cons_succ, List.getElem?_cons_zero]; rfl)
          case hqvb11 => exact fun _ _ _ h => h
          case hwvb11 => rfl
          case hyvb11 => (intro w0; go_simp; try with_reducible rfl)
          (try simp only [Act.put, List.setIfInBounds_toArray, List.set_cons_zero, List.set_cons_succ])
          refine wpAny_done (by kernel_rfl) ?_ _
          go_wp2_with fail
          refine bodyPost_ret (results_vt rfl _ _ R _ rfl rfl (HBLK.out _ hb8)) rfl ?_
          exact HFIN.out _ mm _ hb8 hO8 rfl
        case hdvb16 =>
          go_simp
          (refine HHE.out.mono ?_; rintro e w8 ⟨mm, rfl, hO8, hb8⟩)
          refine hK _ _ ?_
          clear hK K
          (try simp only [Act.put, List.setIfInBounds_toArray, List.set_cons_zero, List.set_cons_succ])
          refine wpAny_ready (rs := [0]) (by kernel_rfl) (by simp) ?_
          refine' AllReady.cons ?hivb12 (fun K hK => ?hrvb12) AllReady.nil
          case hivb12 => (simp only [List.getElem?_toArray, List.getElem?_cons_succ, List.getElem?_cons_zero]; rfl)
          refine want_load_run rfl rfl rfl (HHS.out _ hb8).1 (hK _ _ ?_)
          clear hK K
          (try simp only [Act.put, List.setIfInBounds_toArray, List.set_cons_zero, List.set_cons_succ])
          refine wpAny_ready (rs := [5]) (by kernel_rfl) (by simp) ?_
          refine' AllReady.cons ?hivb13 (fun K hK => ?hrvb13) AllReady.nil
          case hivb13 => (simp only [List.getElem?_toArray, List.getElem?_cons_succ, List.getElem?_cons_zero]; rfl)
          refine want_store_run rfl rfl rfl rfl (HHS.out _ hb8).2 (hK _ _ ?_)
          clear hK K
          (try simp only [Act.put, List.setIfInBounds_toArray, List.set_cons_zero, List.set_cons_succ])
          refine' wpAny_take (i := 6) ?hivb14 (by kernel_rfl) (by kernel_rfl) (by kernel_rfl) ?hqvb14 (Or.inl ⟨?hwvb14, ?hyvb14⟩) ?hrvb14
          case hivb14 => (simp only [List.getElem?_toArray, List.getElem?_cons_succ, List.getElem?_cons_zero]; rfl)
          case hqvb14 => exact fun _ _ _ h => h
          case hwvb14 => rfl
          case hyvb14 => (intro w0; go_simp; try with_reducible rfl)
          (try simp only [Act.put, List.setIfInBounds_toArray, List.set_cons_zero, List.set_cons_succ])
          refine' wpAny_take (i := 7) ?hivb15 (by kernel_rfl) (by kernel_rfl) (by kernel_rfl) ?hqvb15 (Or.inl ⟨?hwvb15, ?hyvb15⟩) ?hrvb15
          case hivb15 => (simp only [List.getElem?_toArray, List.getElem?_cons_succ, List.getElem?_cons_zero]; rfl)
          case hqvb15 => exact fun _ _ _ h => h
          case hwvb15 => rfl
          case hyvb15 => (intro w0; go_simp; try with_reducible rfl)
          (try simp only [Act.put, List.setIfInBounds_toArray, List.set_cons_zero, List.set_cons_succ])
          refine wpAny_done (by kernel_rfl) ?_ _
          go_wp2_with fail
          refine bodyPost_ret (results_vt rfl _ _ R _ rfl rfl (HBLK.out _ hb8)) rfl ?_
          exact HFIN.out _ mm _ hb8 hO8 rfl
    · skip
      go_upto_region 10 with fail
      obtain ⟨w7, hw7⟩ : ∃ u, u = (((w6.setCell ⟨V, 9, none⟩ (.int .i64 x)).setCell ⟨V, 8, none⟩ (.int .i64 1)).setCell ⟨V, 9, none⟩ (.int .i64 y)) := ⟨_, rfl⟩
      rw [← hw7]
      have hT7 : Turn (· = V) w6 w7 := by rw [hw7]; exact (((Turn.refl (· = V) w6).setCell (p := ⟨V, 9, none⟩) rfl _).setCell (p := ⟨V, 8, none⟩) rfl _).setCell (p := ⟨V, 9, none⟩) rfl _
      have hBV7 : Blk w7 V 31 (vcl ⟨A, B, 1, y⟩ (Value.slice aa A.l.length ca) (Value.slice ab B.l.length cb)) := by
        have := ((HBV6.out.set_ 9 (.int .i64 x)).set_ 8 (.int .i64 1)).set_ 9 (.int .i64 y)
        rw [hw7]
        unfold vcl
        rw [← HTA.out, ← HTB.out]
        exact this
      have hBR7 := Blk.turn HBR6.out hT7 hRV
      have hOA7 : OwnR w7 (R ≤ ·) (Value.slice aa A.l.length ca) A.l := OwnK.turn HOA6.out hT7 fun k hk h => by have := HVA.out k hk; omega
      have hOB7 : OwnR w7 (R ≤ ·) (Value.slice ab B.l.length cb) B.l := OwnK.turn HOB6.out hT7 fun k hk h => by have := HVB.out k hk; omega
      have hlt := HBR6.out.lt
      have HB7 : Hid (Below R w w7) := Lib.hid (HB6W.out.trans (hT7.below (B := R) fun k hk => by have := HB13.out.size; rw [hk]; have h1 := HBV6.out.lt; have h2 := HRV.out; omega))
      obtain ⟨u, hu⟩ : ∃ u, u = w7.drew := ⟨_, rfl⟩
      have hd : Below w7.heap.size w7 u := by rw [hu]; exact (Below.refl _ _).drew
      have hBVu := hBV7.below hd hBV7.lt
      have hBRu := hBR7.below hd hBR7.lt
      have hOAu := OwnK.next hOA7 hd
      have hOBu := OwnK.next hOB7 hd
      have hBu := HB7.out.trans (hd.mono (by have := hBR7.lt; omega))
      have hl0 := load_blk hBVu Tryz.underlying31 (by rw [info_vt]; rfl)
      have HL0 := Lib.hid hl0
      have cl : u.cell? ⟨V, 6, none⟩ = some (Value.slice ab B.l.length cb) := hBVu.cell 6
      have HBVu := Lib.hid hBVu
      have HBRu := Lib.hid hBRu
      have HOAu := Lib.hid hOAu
      have HOBu := Lib.hid hOBu
      have HBu := Lib.hid hBu
      have HHE := Lib.hid (HHB.out u _ (OwnR.rcv HOBu.out))
      have HHS : Hid (∀ u2, Below u.heap.size u u2 → (Instr.loadAt 31 (.pointer (some ⟨V, 0, none⟩))).run Tryz.prog u2 = .ok (.agg (vcl ⟨A, B, 1, y⟩ (Value.slice aa A.l.length ca) (Value.slice ab B.l.length cb))) u2 ∧ (Instr.storeAt 31 (.pointer (some ⟨R, 0, none⟩)) (.agg (vcl ⟨A, B, 1, y⟩ (Value.slice aa A.l.length ca) (Value.slice ab B.l.length cb)))).run Tryz.prog u2 = .ok () (u2.setRow R (vcl ⟨A, B, 1, y⟩ (Value.slice aa A.l.length ca) (Value.slice ab B.l.length cb)))) := Lib.hid fun u2 hb2 =>
        ⟨load_blk (HBVu.out.below hb2 HBVu.out.lt) Tryz.underlying31 (by rw [info_vt]; rfl), store_blk (HBRu.out.below hb2 HBRu.out.lt) (by rw [info_vt]; rfl) rfl (vcl_one HVO.out.1 HVO.out.2)⟩
      have HFIN : Hid (∀ (u2 : World) (m : Value) (e : Ending), Below u.heap.size u u2 → OwnT u2 (u.heap.size ≤ ·) m (heldV B.l) → e = .returned (.tuple #[.agg (vcl ⟨A, B, 1, y⟩ (Value.slice aa A.l.length ca) (Value.slice ab B.l.length cb)), m, .int .i64 0]) → LoadAns w ss tt e (u2.setRow R (vcl ⟨A, B, 1, y⟩ (Value.slice aa A.l.length ca) (Value.slice ab B.l.length cb)))) := Lib.hid fun u2 m e hb2 hm he => by
        have hrt := row_turn u2 R (vcl ⟨A, B, 1, y⟩ (Value.slice aa A.l.length ca) (Value.slice ab B.l.length cb))
        refine ⟨(Value.slice aa A.l.length ca), (Value.slice ab B.l.length cb), m, by rw [HLN.out, HPK.out]; exact he, ?_, ?_, ?_, ?_⟩
        · rw [HLN.out, HPK.out, ← HRR.out]
          exact OwnK.turn (OwnK.next HOAu.out hb2) hrt HRA.out
        · rw [HLN.out, HPK.out, ← HRR.out]
          exact OwnK.turn (OwnK.next HOBu.out hb2) hrt HRB.out
        · rw [HLN.out, HPK.out, ← HRR.out]
          have hle := HBRu.out.lt
          exact (OwnK.turn hm hrt fun k hk h => by have := hm.2.2 k hk; simp only at this; omega).place fun k hk => by have := hm.2.2 k hk; simp only at this ⊢; omega
        · rw [← HRR.out]
          exact (HBu.out.trans (hb2.mono (by have := HBRu.out.lt; omega))).trans (hrt.below fun k hk => by omega)
      have HBLK : Hid (∀ u2, Below u.heap.size u u2 → Blk (u2.setRow R (vcl ⟨A, B, 1, y⟩ (Value.slice aa A.l.length ca) (Value.slice ab B.l.length cb))) R 31 (vcl ⟨A, B, 1, y⟩ (Value.slice aa A.l.length ca) (Value.slice ab B.l.length cb))) := Lib.hid fun u2 hb2 => setRow_heap _ _ _ _ _ _ (HBRu.out.below hb2 HBRu.out.lt)
      refine wp_region_any (by kernel_rfl) (show wpAny Tryz.prog _ _ _ _ _ _ w7.drew from ?_)
      rw [← hu]
      clear hu hw7 hT7 hBV7 hBR7 hOA7 hOB7 hd hBVu hBRu hOAu hOBu hBu hl0 hlt
      refine' wpAny_take (i := 1) ?hivb18 (by kernel_rfl) (by kernel_rfl) (by kernel_rfl) ?hqvb18 (Or.inl ⟨?hwvb18, ?hyvb18⟩) ?hrvb18
      case hivb18 => (simp only [List.getElem?_toArray, List.getElem?_cons_succ, List.getElem?_cons_zero]; rfl)
      case hqvb18 => exact fun _ _ _ h => h
      case hwvb18 => rfl
      case hyvb18 => (intro w0; go_simp; try with_reducible rfl)
      (try simp only [Act.put, List.setIfInBounds_toArray, List.set_cons_zero, List.set_cons_succ])
      refine' wpAny_take (i := 2) ?hivb19 (by kernel_rfl) (by kernel_rfl) (by kernel_rfl) ?hqvb19 (Or.inl ⟨?hwvb19, ?hyvb19⟩) ?hrvb19
      case hivb19 => (simp only [List.getElem?_toArray, List.getElem?_cons_succ, List.getElem?_cons_zero]; rfl)
      case hqvb19 => exact fun _ _ _ h => h
      case hwvb19 => rfl
      case hyvb19 => (intro w0; go_simp; try with_reducible rfl)
      (try simp only [Act.put, List.setIfInBounds_toArray, List.set_cons_zero, List.set_cons_succ])
      refine wpAny_ready (rs := [0, 3]) (by kernel_rfl) (by simp) ?_
      refine' AllReady.cons ?havb34 (fun K hK => ?hcvb34) (AllReady.cons ?hbvb34 (fun K hK => ?hdvb34) AllReady.nil)
      case havb34 => (simp only [List.getElem?_toArray, List.getElem?_cons_succ, List.getElem?_cons_zero]; rfl)
      case hbvb34 => (simp only [List.getElem?_toArray, List.getElem?_cons_succ, List.getElem?_cons_zero]; rfl)
      case hcvb34 =>
        refine want_load_run rfl rfl rfl HL0.out (hK _ _ ?_)
        clear hK K
        (try simp only [Act.put, List.setIfInBounds_toArray, List.set_cons_zero, List.set_cons_succ])
        refine wpAny_ready (rs := [3]) (by kernel_rfl) (by simp) ?_
        refine' AllReady.cons ?hivb20 (fun K hK => ?hrvb20) AllReady.nil
        case hivb20 => (simp only [List.getElem?_toArray, List.getElem?_cons_succ, List.getElem?_cons_zero]; rfl)
        go_simp
        refine hK _ _ ?_
        clear hK K
        (try simp only [Act.put, List.setIfInBounds_toArray, List.set_cons_zero, List.set_cons_succ])
        refine wpAny_ready (rs := [4]) (by kernel_rfl) (by simp) ?_
        refine' AllReady.cons ?hivb21 (fun K hK => ?hrvb21) AllReady.nil
        case hivb21 => (simp only [List.getElem?_toArray, List.getElem?_cons_succ, List.getElem?_cons_zero]; rfl)
        go_simp
        (refine HHE.out.mono ?_; rintro e w8 ⟨mm, rfl, hO8, hb8⟩)
        refine hK _ _ ?_
        clear hK K
        (try simp only [Act.put, List.setIfInBounds_toArray, List.set_cons_zero, List.set_cons_succ])
        refine wpAny_ready (rs := [5]) (by kernel_rfl) (by simp) ?_
        refine' AllReady.cons ?hivb22 (fun K hK => ?hrvb22) AllReady.nil
        case hivb22 => (simp only [List.getElem?_toArray, List.getElem?_cons_succ, List.getElem?_cons_zero]; rfl)
        refine want_store_run rfl rfl rfl rfl (HHS.out _ hb8).2 (hK _ _ ?_)
        clear hK K
        (try simp only [Act.put, List.setIfInBounds_toArray, List.set_cons_zero, List.set_cons_succ])
        refine' wpAny_take (i := 6) ?hivb23 (by kernel_rfl) (by kernel_rfl) (by kernel_rfl) ?hqvb23 (Or.inl ⟨?hwvb23, ?hyvb23⟩) ?hrvb23
        case hivb23 => (simp only [List.getElem?_toArray, List.getElem?_cons_succ, List.getElem?_cons_zero]; rfl)
        case hqvb23 => exact fun _ _ _ h => h
        case hwvb23 => rfl
        case hyvb23 => (intro w0; go_simp; try with_reducible rfl)
        (try simp only [Act.put, List.setIfInBounds_toArray, List.set_cons_zero, List.set_cons_succ])
        refine' wpAny_take (i := 7) ?hivb24 (by kernel_rfl) (by kernel_rfl) (by kernel_rfl) ?hqvb24 (Or.inl ⟨?hwvb24, ?hyvb24⟩) ?hrvb24
        case hivb24 => (simp only [List.getElem?_toArray, List.getElem?_cons_succ, List.getElem?_cons_zero]; rfl)
        case hqvb24 => exact fun _ _ _ h => h
        case hwvb24 => rfl
        case hyvb24 => (intro w0; go_simp; try with_reducible rfl)
        (try simp only [Act.put, List.setIfInBounds_toArray, List.set_cons_zero, List.set_cons_succ])
        refine wpAny_done (by kernel_rfl) ?_ _
        go_wp2_with fail
        refine bodyPost_ret (results_vt rfl _ _ R _ rfl rfl (HBLK.out _ hb8)) rfl ?_
        exact HFIN.out _ mm _ hb8 hO8 rfl
      case hdvb34 =>
        go_simp
        refine hK _ _ ?_
        clear hK K
        (try simp only [Act.put, List.setIfInBounds_toArray, List.set_cons_zero, List.set_cons_succ])
        refine wpAny_ready (rs := [0, 4]) (by kernel_rfl) (by simp) ?_
        refine' AllReady.cons ?havb33 (fun K hK => ?hcvb33) (AllReady.cons ?hbvb33 (fun K hK => ?hdvb33) AllReady.nil)
        case havb33 => (simp only [List.getElem?_toArray, List.getElem?_cons_succ, List.getElem?_cons_zero]; rfl)
        case hbvb33 => (simp only [List.getElem?_toArray, List.getElem?_cons_succ, List.getElem?_cons_zero]; rfl)
        case hcvb33 =>
          refine want_load_run rfl rfl rfl HL0.out (hK _ _ ?_)
          clear hK K
          (try simp only [Act.put, List.setIfInBounds_toArray, List.set_cons_zero, List.set_cons_succ])
          refine wpAny_ready (rs := [4]) (by kernel_rfl) (by simp) ?_
          refine' AllReady.cons ?hivb25 (fun K hK => ?hrvb25) AllReady.nil
          case hivb25 => (simp only [List.getElem?_toArray, List.getElem?_cons_succ, List.getElem?_cons_zero]; rfl)
          go_simp
          (refine HHE.out.mono ?_; rintro e w8 ⟨mm, rfl, hO8, hb8⟩)
          refine hK _ _ ?_
          clear hK K
          (try simp only [Act.put, List.setIfInBounds_toArray, List.set_cons_zero, List.set_cons_succ])
          refine wpAny_ready (rs := [5]) (by kernel_rfl) (by simp) ?_
          refine' AllReady.cons ?hivb26 (fun K hK => ?hrvb26) AllReady.nil
          case hivb26 => (simp only [List.getElem?_toArray, List.getElem?_cons_succ, List.getElem?_cons_zero]; rfl)
          refine want_store_run rfl rfl rfl rfl (HHS.out _ hb8).2 (hK _ _ ?_)
          clear hK K
          (try simp only [Act.put, List.setIfInBounds_toArray, List.set_cons_zero, List.set_cons_succ])
          refine' wpAny_take (i := 6) ?hivb27 (by kernel_rfl) (by kernel_rfl) (by kernel_rfl) ?hqvb27 (Or.inl ⟨?hwvb27, ?hyvb27⟩) ?hrvb27
          case hivb27 => (simp only [List.getElem?_toArray, List.getElem?_cons_succ, List.getElem?_cons_zero]; rfl)
          case hqvb27 => exact fun _ _ _ h => h
          case hwvb27 => rfl
          case hyvb27 => (intro w0; go_simp; try with_reducible rfl)
          (try simp only [Act.put, List.setIfInBounds_toArray, List.set_cons_zero, List.set_cons_succ])
          refine' wpAny_take (i := 7) ?hivb28 (by kernel_rfl) (by kernel_rfl) (by kernel_rfl) ?hqvb28 (Or.inl ⟨?hwvb28, ?hyvb28⟩) ?hrvb28
          case hivb28 => (simp only [List.getElem?_toArray, List.getElem?_cons_succ, List.getElem?_cons_zero]; rfl)
          case hqvb28 => exact fun _ _ _ h => h
          case hwvb28 => rfl
          case hyvb28 => (intro w0; go_simp; try with_reducible rfl)
          (try simp only [Act.put, List.setIfInBounds_toArray, List.set_cons_zero, List.set_cons_succ])
          refine wpAny_done (by kernel_rfl) ?_ _
          go_wp2_with fail
          refine bodyPost_ret (results_vt rfl _ _ R _ rfl rfl (HBLK.out _ hb8)) rfl ?_
          exact HFIN.out _ mm _ hb8 hO8 rfl
        case hdvb33 =>
          go_simp
          (refine HHE.out.mono ?_; rintro e w8 ⟨mm, rfl, hO8, hb8⟩)
          refine hK _ _ ?_
          clear hK K
          (try simp only [Act.put, List.setIfInBounds_toArray, List.set_cons_zero, List.set_cons_succ])
          refine wpAny_ready (rs := [0]) (by kernel_rfl) (by simp) ?_
          refine' AllReady.cons ?hivb29 (fun K hK => ?hrvb29) AllReady.nil
          case hivb29 => (simp only [List.getElem?_toArray, List.getElem?_cons_succ, List.getElem?_cons_zero]; rfl)
          refine want_load_run rfl rfl rfl (HHS.out _ hb8).1 (hK _ _ ?_)
          clear hK K
          (try simp only [Act.put, List.setIfInBounds_toArray, List.set_cons_zero, List.set_cons_succ])
          refine wpAny_ready (rs := [5]) (by kernel_rfl) (by simp) ?_
          refine' AllReady.cons ?hivb30 (fun K hK => ?hrvb30) AllReady.nil
          case hivb30 => (simp only [List.getElem?_toArray, List.getElem?_cons_succ, List.getElem?_cons_zero]; rfl)
          refine want_store_run rfl rfl rfl rfl (HHS.out _ hb8).2 (hK _ _ ?_)
          clear hK K
          (try simp only [Act.put, List.setIfInBounds_toArray, List.set_cons_zero, List.set_cons_succ])
          refine' wpAny_take (i := 6) ?hivb31 (by kernel_rfl) (by kernel_rfl) (by kernel_rfl) ?hqvb31 (Or.inl ⟨?hwvb31, ?hyvb31⟩) ?hrvb31
          case hivb31 => (simp only [List.getElem?_toArray, List.getElem?_cons_succ, List.getElem?_cons_zero]; rfl)
          case hqvb31 => exact fun _ _ _ h => h
          case hwvb31 => rfl
          case hyvb31 => (intro w0; go_simp; try with_reducible rfl)
          (try simp only [Act.put, List.setIfInBounds_toArray, List.set_cons_zero, List.set_cons_succ])
          refine' wpAny_take (i := 7) ?hivb32 (by kernel_rfl) (by kernel_rfl) (by kernel_rfl) ?hqvb32 (Or.inl ⟨?hwvb32, ?hyvb32⟩) ?hrvb32
          case hivb32 => (simp only [List.getElem?_toArray, List.getElem?_cons_succ, List.getElem?_cons_zero]; rfl)
          case hqvb32 => exact fun _ _ _ h => h
          case hwvb32 => rfl
          case hyvb32 => (intro w0; go_simp; try with_reducible rfl)
          (try simp only [Act.put, List.setIfInBounds_toArray, List.set_cons_zero, List.set_cons_succ])
          refine wpAny_done (by kernel_rfl) ?_ _
          go_wp2_with fail
          refine bodyPost_ret (results_vt rfl _ _ R _ rfl rfl (HBLK.out _ hb8)) rfl ?_
          exact HFIN.out _ mm _ hb8 hO8 rfl
  · have hx0 : ¬ x < 0 := by omega
    have HPK := Lib.hid (show pickV A B = ⟨A, B, 0, x⟩ by unfold pickV; rw [← HX.out, ← HY.out, if_neg hyx])
    clear hno
    go_upto_region 11 with fail
    obtain ⟨w7, hw7⟩ : ∃ u, u = (w6.setCell ⟨V, 9, none⟩ (.int .i64 x)) := ⟨_, rfl⟩
    rw [← hw7]
    have hT7 : Turn (· = V) w6 w7 := by rw [hw7]; exact (Turn.refl (· = V) w6).setCell (p := ⟨V, 9, none⟩) rfl _
    have hBV7 : Blk w7 V 31 (vcl ⟨A, B, 0, x⟩ (Value.slice aa A.l.length ca) (Value.slice ab B.l.length cb)) := by
      have := HBV6.out.set_ 9 (.int .i64 x)
      rw [hw7]
      unfold vcl
      rw [← HTA.out, ← HTB.out]
      exact this
    have hBR7 := Blk.turn HBR6.out hT7 hRV
    have hOA7 : OwnR w7 (R ≤ ·) (Value.slice aa A.l.length ca) A.l := OwnK.turn HOA6.out hT7 fun k hk h => by have := HVA.out k hk; omega
    have hOB7 : OwnR w7 (R ≤ ·) (Value.slice ab B.l.length cb) B.l := OwnK.turn HOB6.out hT7 fun k hk h => by have := HVB.out k hk; omega
    have hlt := HBR6.out.lt
    have HB7 : Hid (Below R w w7) := Lib.hid (HB6W.out.trans (hT7.below (B := R) fun k hk => by have := HB13.out.size; rw [hk]; have h1 := HBV6.out.lt; have h2 := HRV.out; omega))
    obtain ⟨u, hu⟩ : ∃ u, u = w7.drew := ⟨_, rfl⟩
    have hd : Below w7.heap.size w7 u := by rw [hu]; exact (Below.refl _ _).drew
    have hBVu := hBV7.below hd hBV7.lt
    have hBRu := hBR7.below hd hBR7.lt
    have hOAu := OwnK.next hOA7 hd
    have hOBu := OwnK.next hOB7 hd
    have hBu := HB7.out.trans (hd.mono (by have := hBR7.lt; omega))
    have hl0 := load_blk hBVu Tryz.underlying31 (by rw [info_vt]; rfl)
    have HL0 := Lib.hid hl0
    have cl : u.cell? ⟨V, 2, none⟩ = some (Value.slice aa A.l.length ca) := hBVu.cell 2
    have HBVu := Lib.hid hBVu
    have HBRu := Lib.hid hBRu
    have HOAu := Lib.hid hOAu
    have HOBu := Lib.hid hOBu
    have HBu := Lib.hid hBu
    have HHE := Lib.hid (HHA.out u _ (OwnR.rcv HOAu.out))
    have HHS : Hid (∀ u2, Below u.heap.size u u2 → (Instr.loadAt 31 (.pointer (some ⟨V, 0, none⟩))).run Tryz.prog u2 = .ok (.agg (vcl ⟨A, B, 0, x⟩ (Value.slice aa A.l.length ca) (Value.slice ab B.l.length cb))) u2 ∧ (Instr.storeAt 31 (.pointer (some ⟨R, 0, none⟩)) (.agg (vcl ⟨A, B, 0, x⟩ (Value.slice aa A.l.length ca) (Value.slice ab B.l.length cb)))).run Tryz.prog u2 = .ok () (u2.setRow R (vcl ⟨A, B, 0, x⟩ (Value.slice aa A.l.length ca) (Value.slice ab B.l.length cb)))) := Lib.hid fun u2 hb2 =>
      ⟨load_blk (HBVu.out.below hb2 HBVu.out.lt) Tryz.underlying31 (by rw [info_vt]; rfl), store_blk (HBRu.out.below hb2 HBRu.out.lt) (by rw [info_vt]; rfl) rfl (vcl_one HVO.out.1 HVO.out.2)⟩
    have HFIN : Hid (∀ (u2 : World) (m : Value) (e : Ending), Below u.heap.size u u2 → OwnT u2 (u.heap.size ≤ ·) m (heldV A.l) → e = .returned (.tuple #[.agg (vcl ⟨A, B, 0, x⟩ (Value.slice aa A.l.length ca) (Value.slice ab B.l.length cb)), m, .int .i64 0]) → LoadAns w ss tt e (u2.setRow R (vcl ⟨A, B, 0, x⟩ (Value.slice aa A.l.length ca) (Value.slice ab B.l.length cb)))) := Lib.hid fun u2 m e hb2 hm he => by
      have hrt := row_turn u2 R (vcl ⟨A, B, 0, x⟩ (Value.slice aa A.l.length ca) (Value.slice ab B.l.length cb))
      refine ⟨(Value.slice aa A.l.length ca), (Value.slice ab B.l.length cb), m, by rw [HLN.out, HPK.out]; exact he, ?_, ?_, ?_, ?_⟩
      · rw [HLN.out, HPK.out, ← HRR.out]
        exact OwnK.turn (OwnK.next HOAu.out hb2) hrt HRA.out
      · rw [HLN.out, HPK.out, ← HRR.out]
        exact OwnK.turn (OwnK.next HOBu.out hb2) hrt HRB.out
      · rw [HLN.out, HPK.out, ← HRR.out]
        have hle := HBRu.out.lt
        exact (OwnK.turn hm hrt fun k hk h => by have := hm.2.2 k hk; simp only at this; omega).place fun k hk => by have := hm.2.2 k hk; simp only at this ⊢; omega
      · rw [← HRR.out]
        exact (HBu.out.trans (hb2.mono (by have := HBRu.out.lt; omega))).trans (hrt.below fun k hk => by omega)
    have HBLK : Hid (∀ u2, Below u.heap.size u u2 → Blk (u2.setRow R (vcl ⟨A, B, 0, x⟩ (Value.slice aa A.l.length ca) (Value.slice ab B.l.length cb))) R 31 (vcl ⟨A, B, 0, x⟩ (Value.slice aa A.l.length ca) (Value.slice ab B.l.length cb))) := Lib.hid fun u2 hb2 => setRow_heap _ _ _ _ _ _ (HBRu.out.below hb2 HBRu.out.lt)
    refine wp_region_any (by kernel_rfl) (show wpAny Tryz.prog _ _ _ _ _ _ w7.drew from ?_)
    rw [← hu]
    clear hu hw7 hT7 hBV7 hBR7 hOA7 hOB7 hd hBVu hBRu hOAu hOBu hBu hl0 hlt
    refine' wpAny_take (i := 1) ?hivb52 (by kernel_rfl) (by kernel_rfl) (by kernel_rfl) ?hqvb52 (Or.inl ⟨?hwvb52, ?hyvb52⟩) ?hrvb52
    case hivb52 => (simp only [List.getElem?_toArray, List.getElem?_cons_succ, List.getElem?_cons_zero]; rfl)
    case hqvb52 => exact fun _ _ _ h => h
    case hwvb52 => rfl
    case hyvb52 => (intro w0; go_simp; try with_reducible rfl)
    (try simp only [Act.put, List.setIfInBounds_toArray, List.set_cons_zero, List.set_cons_succ])
    refine' wpAny_take (i := 2) ?hivb53 (by kernel_rfl) (by kernel_rfl) (by kernel_rfl) ?hqvb53 (Or.inl ⟨?hwvb53, ?hyvb53⟩) ?hrvb53
    case hivb53 => (simp only [List.getElem?_toArray, List.getElem?_cons_succ, List.getElem?_cons_zero]; rfl)
    case hqvb53 => exact fun _ _ _ h => h
    case hwvb53 => rfl
    case hyvb53 => (intro w0; go_simp; try with_reducible rfl)
    (try simp only [Act.put, List.setIfInBounds_toArray, List.set_cons_zero, List.set_cons_succ])
    refine wpAny_ready (rs := [0, 3]) (by kernel_rfl) (by simp) ?_
    refine' AllReady.cons ?havb68 (fun K hK => ?hcvb68) (AllReady.cons ?hbvb68 (fun K hK => ?hdvb68) AllReady.nil)
    case havb68 => (simp only [List.getElem?_toArray, List.getElem?_cons_succ, List.getElem?_cons_zero]; rfl)
    case hbvb68 => (simp only [List.getElem?_toArray, List.getElem?_cons_succ, List.getElem?_cons_zero]; rfl)
    case hcvb68 =>
      refine want_load_run rfl rfl rfl HL0.out (hK _ _ ?_)
      clear hK K
      (try simp only [Act.put, List.setIfInBounds_toArray, List.set_cons_zero, List.set_cons_succ])
      refine wpAny_ready (rs := [3]) (by kernel_rfl) (by simp) ?_
      refine' AllReady.cons ?hivb54 (fun K hK => ?hrvb54) AllReady.nil
      case hivb54 => (simp only [List.getElem?_toArray, List.getElem?_cons_succ, List.getElem?_cons_zero]; rfl)
      go_simp
      refine hK _ _ ?_
      clear hK K
      (try simp only [Act.put, List.setIfInBounds_toArray, List.set_cons_zero, List.set_cons_succ])
      refine wpAny_ready (rs := [4]) (by kernel_rfl) (by simp) ?_
      refine' AllReady.cons ?hivb55 (fun K hK => ?hrvb55) AllReady.nil
      case hivb55 => (simp only [List.getElem?_toArray, List.getElem?_cons_succ, List.getElem?_cons_zero]; rfl)
      go_simp
      (refine HHE.out.mono ?_; rintro e w8 ⟨mm, rfl, hO8, hb8⟩)
      refine hK _ _ ?_
      clear hK K
      (try simp only [Act.put, List.setIfInBounds_toArray, List.set_cons_zero, List.set_cons_succ])
      refine wpAny_ready (rs := [5]) (by kernel_rfl) (by simp) ?_
      refine' AllReady.cons ?hivb56 (fun K hK => ?hrvb56) AllReady.nil
      case hivb56 => (simp only [List.getElem?_toArray, List.getElem?_cons_succ, List.getElem?_cons_zero]; rfl)
      refine want_store_run rfl rfl rfl rfl (HHS.out _ hb8).2 (hK _ _ ?_)
      clear hK K
      (try simp only [Act.put, List.setIfInBounds_toArray, List.set_cons_zero, List.set_cons_succ])
      refine' wpAny_take (i := 6) ?hivb57 (by kernel_rfl) (by kernel_rfl) (by kernel_rfl) ?hqvb57 (Or.inl ⟨?hwvb57, ?hyvb57⟩) ?hrvb57
      case hivb57 => (simp only [List.getElem?_toArray, List.getElem?_cons_succ, List.getElem?_cons_zero]; rfl)
      case hqvb57 => exact fun _ _ _ h => h
      case hwvb57 => rfl
      case hyvb57 => (intro w0; go_simp; try with_reducible rfl)
      (try simp only [Act.put, List.setIfInBounds_toArray, List.set_cons_zero, List.set_cons_succ])
      refine' wpAny_take (i := 7) ?hivb58 (by kernel_rfl) (by kernel_rfl) (by kernel_rfl) ?hqvb58 (Or.inl ⟨?hwvb58, ?hyvb58⟩) ?hrvb58
      case hivb58 => (simp only [List.getElem?_toArray, List.getElem?_cons_succ, List.getElem?_cons_zero]; rfl)
      case hqvb58 => exact fun _ _ _ h => h
      case hwvb58 => rfl
      case hyvb58 => (intro w0; go_simp; try with_reducible rfl)
      (try simp only [Act.put, List.setIfInBounds_toArray, List.set_cons_zero, List.set_cons_succ])
      refine wpAny_done (by kernel_rfl) ?_ _
      go_wp2_with fail
      refine bodyPost_ret (results_vt rfl _ _ R _ rfl rfl (HBLK.out _ hb8)) rfl ?_
      exact HFIN.out _ mm _ hb8 hO8 rfl
    case hdvb68 =>
      go_simp
      refine hK _ _ ?_
      clear hK K
      (try simp only [Act.put, List.setIfInBounds_toArray, List.set_cons_zero, List.set_cons_succ])
      refine wpAny_ready (rs := [0, 4]) (by kernel_rfl) (by simp) ?_
      refine' AllReady.cons ?havb67 (fun K hK => ?hcvb67) (AllReady.cons ?hbvb67 (fun K hK => ?hdvb67) AllReady.nil)
      case havb67 => (simp only [List.getElem?_toArray, List.getElem?_cons_succ, List.getElem?_cons_zero]; rfl)
      case hbvb67 => (simp only [List.getElem?_toArray, List.getElem?_cons_succ, List.getElem?_cons_zero]; rfl)
      case hcvb67 =>
        refine want_load_run rfl rfl rfl HL0.out (hK _ _ ?_)
        clear hK K
        (try simp only [Act.put, List.setIfInBounds_toArray, List.set_cons_zero, List.set_cons_succ])
        refine wpAny_ready (rs := [4]) (by kernel_rfl) (by simp) ?_
        refine' AllReady.cons ?hivb59 (fun K hK => ?hrvb59) AllReady.nil
        case hivb59 => (simp only [List.getElem?_toArray, List.getElem?_cons_succ, List.getElem?_cons_zero]; rfl)
        go_simp
        (refine HHE.out.mono ?_; rintro e w8 ⟨mm, rfl, hO8, hb8⟩)
        refine hK _ _ ?_
        clear hK K
        (try simp only [Act.put, List.setIfInBounds_toArray, List.set_cons_zero, List.set_cons_succ])
        refine wpAny_ready (rs := [5]) (by kernel_rfl) (by simp) ?_
        refine' AllReady.cons ?hivb60 (fun K hK => ?hrvb60) AllReady.nil
        case hivb60 => (simp only [List.getElem?_toArray, List.getElem?_cons_succ, List.getElem?_cons_zero]; rfl)
        refine want_store_run rfl rfl rfl rfl (HHS.out _ hb8).2 (hK _ _ ?_)
        clear hK K
        (try simp only [Act.put, List.setIfInBounds_toArray, List.set_cons_zero, List.set_cons_succ])
        refine' wpAny_take (i := 6) ?hivb61 (by kernel_rfl) (by kernel_rfl) (by kernel_rfl) ?hqvb61 (Or.inl ⟨?hwvb61, ?hyvb61⟩) ?hrvb61
        case hivb61 => (simp only [List.getElem?_toArray, List.getElem?_cons_succ, List.getElem?_cons_zero]; rfl)
        case hqvb61 => exact fun _ _ _ h => h
        case hwvb61 => rfl
        case hyvb61 => (intro w0; go_simp; try with_reducible rfl)
        (try simp only [Act.put, List.setIfInBounds_toArray, List.set_cons_zero, List.set_cons_succ])
        refine' wpAny_take (i := 7) ?hivb62 (by kernel_rfl) (by kernel_rfl) (by kernel_rfl) ?hqvb62 (Or.inl ⟨?hwvb62, ?hyvb62⟩) ?hrvb62
        case hivb62 => (simp only [List.getElem?_toArray, List.getElem?_cons_succ, List.getElem?_cons_zero]; rfl)
        case hqvb62 => exact fun _ _ _ h => h
        case hwvb62 => rfl
        case hyvb62 => (intro w0; go_simp; try with_reducible rfl)
        (try simp only [Act.put, List.setIfInBounds_toArray, List.set_cons_zero, List.set_cons_succ])
        refine wpAny_done (by kernel_rfl) ?_ _
        go_wp2_with fail
        refine bodyPost_ret (results_vt rfl _ _ R _ rfl rfl (HBLK.out _ hb8)) rfl ?_
        exact HFIN.out _ mm _ hb8 hO8 rfl
      case hdvb67 =>
        go_simp
        (refine HHE.out.mono ?_; rintro e w8 ⟨mm, rfl, hO8, hb8⟩)
        refine hK _ _ ?_
        clear hK K
        (try simp only [Act.put, List.setIfInBounds_toArray, List.set_cons_zero, List.set_cons_succ])
        refine wpAny_ready (rs := [0]) (by kernel_rfl) (by simp) ?_
        refine' AllReady.cons ?hivb63 (fun K hK => ?hrvb63) AllReady.nil
        case hivb63 => (simp only [List.getElem?_toArray, List.getElem?_cons_succ, List.getElem?_cons_zero]; rfl)
        refine want_load_run rfl rfl rfl (HHS.out _ hb8).1 (hK _ _ ?_)
        clear hK K
        (try simp only [Act.put, List.setIfInBounds_toArray, List.set_cons_zero, List.set_cons_succ])
        refine wpAny_ready (rs := [5]) (by kernel_rfl) (by simp) ?_
        refine' AllReady.cons ?hivb64 (fun K hK => ?hrvb64) AllReady.nil
        case hivb64 => (simp only [List.getElem?_toArray, List.getElem?_cons_succ, List.getElem?_cons_zero]; rfl)
        refine want_store_run rfl rfl rfl rfl (HHS.out _ hb8).2 (hK _ _ ?_)
        clear hK K
        (try simp only [Act.put, List.setIfInBounds_toArray, List.set_cons_zero, List.set_cons_succ])
        refine' wpAny_take (i := 6) ?hivb65 (by kernel_rfl) (by kernel_rfl) (by kernel_rfl) ?hqvb65 (Or.inl ⟨?hwvb65, ?hyvb65⟩) ?hrvb65
        case hivb65 => (simp only [List.getElem?_toArray, List.getElem?_cons_succ, List.getElem?_cons_zero]; rfl)
        case hqvb65 => exact fun _ _ _ h => h
        case hwvb65 => rfl
        case hyvb65 => (intro w0; go_simp; try with_reducible rfl)
        (try simp only [Act.put, List.setIfInBounds_toArray, List.set_cons_zero, List.set_cons_succ])
        refine' wpAny_take (i := 7) ?hivb66 (by kernel_rfl) (by kernel_rfl) (by kernel_rfl) ?hqvb66 (Or.inl ⟨?hwvb66, ?hyvb66⟩) ?hrvb66
        case hivb66 => (simp only [List.getElem?_toArray, List.getElem?_cons_succ, List.getElem?_cons_zero]; rfl)
        case hqvb66 => exact fun _ _ _ h => h
        case hwvb66 => rfl
        case hyvb66 => (intro w0; go_simp; try with_reducible rfl)
        (try simp only [Act.put, List.setIfInBounds_toArray, List.set_cons_zero, List.set_cons_succ])
        refine wpAny_done (by kernel_rfl) ?_ _
        go_wp2_with fail
        refine bodyPost_ret (results_vt rfl _ _ R _ rfl rfl (HBLK.out _ hb8)) rfl ?_
        exact HFIN.out _ mm _ hb8 hO8 rfl
end Go.Proofs.YtkbbeioednhefaaGreatDoor.vt
