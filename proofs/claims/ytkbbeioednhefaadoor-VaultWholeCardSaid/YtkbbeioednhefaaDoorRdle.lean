/-
  The landed vault: a Vault's block and its two journals; made, other, entry, Use; of one that nobody made.
  octet's Reader: End.
  octet's Reader by plain functions: End.
-/
import Derived.Test.YtkbbeioednhefaaDoorJnm
import Derived.Test.YtkbbeioednhefaaDoorVtis
import Derived.Test.YtkbbeioednhefaaDoorVpl
import Derived.Test.YtkbbeioednhefaaDoorRdl
namespace Go.Proofs.YtkbbeioednhefaaDoor.vt
open Go.RowKit Go.Proofs.YtkbbeioednhefaaDoor.mem Go.Proofs.YtkbbeioednhefaaDoor.sha Go.Proofs.YtkbbeioednhefaaDoor.strx Go.Proofs.YtkbbeioednhefaaDoor.rows Go.Proofs.YtkbbeioednhefaaDoor.ids Go.Proofs.YtkbbeioednhefaaDoor.rcd Go.Proofs.YtkbbeioednhefaaDoor.jn Go.Proofs.YtkbbeioednhefaaDoor.txl

/-- a Vault's block: itself, its two files, which of them is in use, that one's number -/
def VBlk (w : World) (g : Nat) (sv fa fb : Value) (u n : Int) : Prop := Blk w g 74 #[sv, fa, fb, .int .i64 u, .int .i64 n]
section
variable {w : World} {g : Nat} {sv fa fb : Value} {u n : Int}
theorem VBlk.c0 (h : VBlk w g sv fa fb u n) : w.cell? ⟨g, 0, none⟩ = some sv := Blk.cell h 0
theorem VBlk.c1 (h : VBlk w g sv fa fb u n) : w.cell? ⟨g, 1, none⟩ = some fa := Blk.cell h 1
theorem VBlk.c2 (h : VBlk w g sv fa fb u n) : w.cell? ⟨g, 2, none⟩ = some fb := Blk.cell h 2
theorem VBlk.c3 (h : VBlk w g sv fa fb u n) : w.cell? ⟨g, 3, none⟩ = some (.int .i64 u) := Blk.cell h 3
theorem VBlk.c4 (h : VBlk w g sv fa fb u n) : w.cell? ⟨g, 4, none⟩ = some (.int .i64 n) := Blk.cell h 4
end
/-- .. the file in use at pc, in the blocks of A; the other one at po, in those of B -/
structure VtOf (G : Nat → Prop) (w : World) (g : Nat) (v : Vt) (pc po bc bo : Value) (A B : Nat → Prop) : Prop where
  blk : VBlk w g (.pointer (some ⟨g, 0, none⟩)) (if v.use = 0 then pc else po) (if v.use = 0 then po else pc) v.use v.no
  c : JnL A w pc bc v.cur
  o : JnL B w po bo v.othr
  a : ∀ k, A k → G k ∧ k ≠ g ∧ k < w.heap.size
  b : ∀ k, B k → G k ∧ k ≠ g ∧ k < w.heap.size
  ab : ∀ k, A k → ¬ B k
  g : G g ∧ g ≠ 0
  s : Snd v
theorem JnL.form {G : Nat → Prop} {w : World} {p b : Value} {j : Jr} (h : JnL G w p b j) : ∃ k, p = .pointer (some ⟨k, 0, none⟩) ∧ w.cell? ⟨k, 0, none⟩ = some b ∧ k < w.heap.size ∧ G k := by
  obtain ⟨k, hp, hj, _, hg, _⟩ := h
  exact ⟨k, hp, hj.c0, Blk.lt hj, hg.1⟩
/-- a Vault that New or Load made -/
def VtL (G : Nat → Prop) (w : World) (p : Value) (v : Vt) : Prop := ∃ g pc po bc bo A B, p = .pointer (some ⟨g, 0, none⟩) ∧ VtOf G w g v pc po bc bo A B
/-- nil, or one that nobody made -/
def VtNo (w : World) (p : Value) : Prop := p = .pointer none ∨ ∃ g, p = .pointer (some ⟨g, 0, none⟩) ∧ VBlk w g (.pointer none) (.pointer none) (.pointer none) 0 0
section
variable {G H F : Nat → Prop} {w w' : World} {g : Nat} {v : Vt} {pc po bc bo : Value} {A B : Nat → Prop} {j : Jr}
theorem VtOf.lt (h : VtOf G w g v pc po bc bo A B) : g < w.heap.size := Blk.lt h.blk
theorem VtOf.turn (h : VtOf G w g v pc po bc bo A B) (ht : Turn H w w') (hd : ∀ k, k < w.heap.size → G k → ¬ H k) : VtOf G w' g v pc po bc bo A B :=
  ⟨Blk.turn h.blk ht (hd g h.lt h.g.1), jn_is.turn h.c ht fun k hk ha => hd k hk (h.a k ha).1, jn_is.turn h.o ht fun k hk hb => hd k hk (h.b k hb).1,
    fun k hk => ⟨(h.a k hk).1, (h.a k hk).2.1, Nat.lt_of_lt_of_le (h.a k hk).2.2 ht.size⟩, fun k hk => ⟨(h.b k hk).1, (h.b k hk).2.1, Nat.lt_of_lt_of_le (h.b k hk).2.2 ht.size⟩, h.ab, h.g, h.s⟩
theorem VtOf.next (h : VtOf G w g v pc po bc bo A B) (hb : Below w.heap.size w w') : VtOf G w' g v pc po bc bo A B := h.turn (Turn.ofBelow hb) fun k hk _ hh => by omega
/-- the file in use behind a call -/
theorem VtOf.cur (h : VtOf G w g v pc po bc bo A B) (hn : New G w) (hj : JnL F w' pc bc j) (hF : ∀ k, F k → A k ∨ w.heap.size ≤ k) (ht : Turn (fun k => A k ∨ w.heap.size ≤ k) w w') (hs : Snd (v.set j)) :
    VtOf G w' g (v.set j) pc po bc bo (fun k => F k ∧ k < w'.heap.size) B := by
  have hl := h.lt
  have hz := ht.size
  refine ⟨?_, by rw [cur_set]; exact jn_is.cap hj, by rw [othr_set]; exact jn_is.turn h.o ht fun k hk hb hh => hh.elim (fun x => h.ab k x hb) fun x => by omega, ?_, ?_, ?_, h.g, hs⟩
  · rw [use_set, no_set]
    exact Blk.turn h.blk ht fun hh => hh.elim (fun x => (h.a g x).2.1 rfl) fun x => by omega
  · intro k hk
    exact (hF k hk.1).elim (fun x => ⟨(h.a k x).1, (h.a k x).2.1, hk.2⟩) fun x => ⟨hn k x, by omega, hk.2⟩
  · exact fun k hk => ⟨(h.b k hk).1, (h.b k hk).2.1, Nat.lt_of_lt_of_le (h.b k hk).2.2 hz⟩
  · intro k hk hb
    exact (hF k hk.1).elim (fun x => h.ab k x hb) fun x => by have := (h.b k hb).2.2; omega
/-- the other one behind a call -/
theorem VtOf.oth (h : VtOf G w g v pc po bc bo A B) (hn : New G w) (hj : JnL F w' po bo j) (hF : ∀ k, F k → B k ∨ w.heap.size ≤ k) (ht : Turn (fun k => B k ∨ w.heap.size ≤ k) w w') (hs : Snd (v.oth j)) :
    VtOf G w' g (v.oth j) pc po bc bo A (fun k => F k ∧ k < w'.heap.size) := by
  have hl := h.lt
  have hz := ht.size
  refine ⟨?_, by rw [cur_oth]; exact jn_is.turn h.c ht fun k hk ha hh => hh.elim (fun x => h.ab k ha x) fun x => by omega, by rw [othr_oth]; exact jn_is.cap hj, ?_, ?_, ?_, h.g, hs⟩
  · rw [use_oth, no_oth]
    exact Blk.turn h.blk ht fun hh => hh.elim (fun x => (h.b g x).2.1 rfl) fun x => by omega
  · exact fun k hk => ⟨(h.a k hk).1, (h.a k hk).2.1, Nat.lt_of_lt_of_le (h.a k hk).2.2 hz⟩
  · intro k hk
    exact (hF k hk.1).elim (fun x => ⟨(h.b k x).1, (h.b k x).2.1, hk.2⟩) fun x => ⟨hn k x, by omega, hk.2⟩
  · intro k ha hk
    exact (hF k hk.1).elim (fun x => h.ab k ha x) fun x => by have := (h.a k ha).2.2; omega
/-- .. what turns is neither file's, nor the block itself -/
theorem VtOf.aside (h : VtOf G w g v pc po bc bo A B) (ht : Turn H w w') (hA : ∀ k, A k → ¬ H k) (hB : ∀ k, B k → ¬ H k) (hg : ¬ H g) : VtOf G w' g v pc po bc bo A B :=
  ⟨Blk.turn h.blk ht hg, jn_is.turn h.c ht fun k _ ha => hA k ha, jn_is.turn h.o ht fun k _ hb => hB k hb,
    fun k hk => ⟨(h.a k hk).1, (h.a k hk).2.1, Nat.lt_of_lt_of_le (h.a k hk).2.2 ht.size⟩, fun k hk => ⟨(h.b k hk).1, (h.b k hk).2.1, Nat.lt_of_lt_of_le (h.b k hk).2.2 ht.size⟩, h.ab, h.g, h.s⟩
/-- another file in the place of the other one -/
theorem VtOf.put (h : VtOf G w g v pc po bc bo A B) {p b : Value} (hj : JnL F w p b j) (hF : ∀ k, F k → G k ∧ k ≠ g ∧ k < w.heap.size) (hA : ∀ k, A k → ¬ F k) (hs : Snd (v.oth j)) (i : Nat) (hi : i = if v.use = 0 then 2 else 1) :
    VtOf G (w.setCell ⟨g, i, none⟩ p) g (v.oth j) pc p bc b A F ∧ Turn G w (w.setCell ⟨g, i, none⟩ p) := by
  have ht : Turn (· = g) w (w.setCell ⟨g, i, none⟩ p) := (Turn.refl (· = g) w).setCell (p := ⟨g, i, none⟩) rfl _
  have hz := ht.size
  refine ⟨⟨?_, by rw [cur_oth]; exact jn_is.turn h.c ht fun k _ ha hh => (h.a k ha).2.1 hh, by rw [othr_oth]; exact jn_is.turn hj ht fun k _ ha hh => (hF k ha).2.1 hh, fun k hk => ⟨(h.a k hk).1, (h.a k hk).2.1, Nat.lt_of_lt_of_le (h.a k hk).2.2 hz⟩, fun k hk => ⟨(hF k hk).1, (hF k hk).2.1, Nat.lt_of_lt_of_le (hF k hk).2.2 hz⟩, hA, h.g, hs⟩, ht.mono fun k hk => hk ▸ h.g.1⟩
  have hb := Blk.set_ h.blk i p
  rw [use_oth, no_oth]
  by_cases hu : v.use = 0
  · rw [if_pos hu] at hi
    rw [if_pos hu, if_pos hu] at hb ⊢
    subst hi
    exact hb
  · rw [if_neg hu] at hi
    rw [if_neg hu, if_neg hu] at hb ⊢
    subst hi
    exact hb
/-- what a call may turn that is asked of the file in use -/
theorem VtOf.newA (h : VtOf G w g v pc po bc bo A B) : New (fun k => A k ∨ w.heap.size ≤ k) w := fun _ hk => .inr hk
theorem VtOf.turnA (h : VtOf G w g v pc po bc bo A B) (hn : New G w) (ht : Turn (fun k => A k ∨ w.heap.size ≤ k) w w') : Turn G w w' := ht.mono fun k hk => hk.elim (fun x => (h.a k x).1) (hn k)
theorem VtOf.turnB (h : VtOf G w g v pc po bc bo A B) (hn : New G w) (ht : Turn (fun k => B k ∨ w.heap.size ≤ k) w w') : Turn G w w' := ht.mono fun k hk => hk.elim (fun x => (h.b k x).1) (hn k)
theorem FileV.wf {j : Jr} (h : FileV j) : Wf j := by
  obtain ⟨G, m, rfl, _, hm⟩ := h
  refine ⟨?_, hm⟩
  have := enL_take_le G m G.length hm
  rwa [List.take_length] at this
theorem Snd.wf {v : Vt} (h : Snd v) : WfV v := by
  have hc := h.c.wf
  have ho := h.o.wf
  unfold Vt.cur at hc
  unfold Vt.othr at ho
  by_cases hu : v.use = 0
  · rw [if_pos hu] at hc ho; exact ⟨hc, ho, h.use⟩
  · rw [if_neg hu] at hc ho; exact ⟨ho, hc, h.use⟩
theorem VtL.cap (h : VtL G w (.pointer (some ⟨g, 0, none⟩)) v) : VtL (fun k => G k ∧ k < w.heap.size) w (.pointer (some ⟨g, 0, none⟩)) v := by
  obtain ⟨g', pc, po, bc, bo, A, B, e, h⟩ := h
  exact ⟨g', pc, po, bc, bo, A, B, e, h.blk, h.c, h.o, fun k hk => ⟨⟨(h.a k hk).1, (h.a k hk).2.2⟩, (h.a k hk).2⟩, fun k hk => ⟨⟨(h.b k hk).1, (h.b k hk).2.2⟩, (h.b k hk).2⟩, h.ab, ⟨⟨h.g.1, h.lt⟩, h.g.2⟩, h.s⟩
theorem VtOf.mono (h : VtOf G w g v pc po bc bo A B) (hh : ∀ k, G k → H k) : VtOf H w g v pc po bc bo A B :=
  ⟨h.blk, h.c, h.o, fun k hk => ⟨hh k (h.a k hk).1, (h.a k hk).2⟩, fun k hk => ⟨hh k (h.b k hk).1, (h.b k hk).2⟩, h.ab, ⟨hh g h.g.1, h.g.2⟩, h.s⟩
end

theorem hasV : (Tryd.prog.info? 74).isSome = true := by kernel_rfl
theorem vt_eql (a : Addr) (w : World) : (binOp .eql 58 (.pointer (some a)) (.pointer (some a))).run Tryd.prog w = .ok (.bool true) w := by
  obtain ⟨j, hj⟩ := Option.isSome_iff_exists.1 hasV
  exact run_eql_ptr_same w a Tryd.underlying58 hj
theorem vmade_ok (g : Nat) (w : World) (h0 : w.cell? ⟨g, 0, none⟩ = some (.pointer (some ⟨g, 0, none⟩))) : Calls Tryd.prog 50 #[.pointer (some ⟨g, 0, none⟩)] w fun e w' => e = .returned (.bool true) ∧ w = w' := by
  have hne := vt_eql
  go_enter Tryd.func50, Tryd.ntmps50
  go_wp2
  go_ret
  exact ⟨rfl, rfl⟩
theorem vmade_no (p : Value) (w : World) (h : VtNo w p) : Calls Tryd.prog 50 #[p] w fun e w' => e = .returned (.bool false) ∧ w = w' := by
  rcases h with rfl | ⟨g, rfl, h⟩
  · go_enter Tryd.func50, Tryd.ntmps50
    go_wp2
    go_ret
    exact ⟨rfl, rfl⟩
  · have h0 : w.cell? ⟨g, 0, none⟩ = some (.pointer none) := h.c0
    have hne := fun a w => bk.eql_nil_left (t := 58) a w Tryd.underlying58
    clear h
    go_enter Tryd.func50, Tryd.ntmps50
    go_wp2
    go_ret
    exact ⟨rfl, rfl⟩
theorem vother_any (g : Nat) (u : Int) (w : World) (h3 : w.cell? ⟨g, 3, none⟩ = some (.int .i64 u)) (hu : u = 0 ∨ u = 1) : Calls Tryd.prog 54 #[.pointer (some ⟨g, 0, none⟩)] w fun e w' => e = .returned (.int .i64 (1 - u)) ∧ w = w' := by
  have ew : IntKind.i64.wrap (1 - u) = 1 - u := by rw [IntKind.wrap_i64]; omega
  clear hu
  go_enter Tryd.func54, Tryd.ntmps54
  go_wp2
  go_ret
  exact ⟨rfl, rfl⟩
/-- one record as the answer -/
theorem results_recv {fn : Func} {p : Tmp} (h : fn.results = #[.cell p 39]) (tmps : Array Value) (w : World) (g : Nat) (k : Int) (t : ByteArray)
    (hp : tmps.getD p undef = .pointer (some ⟨g, 0, none⟩)) (hg : Blk w g 39 #[.int .i64 k, .string t]) :
    (results fn tmps).run Tryd.prog w = .ok (.agg #[.int .i64 k, .string t]) w := by
  have hp' : tmps[p]?.getD undef = .pointer (some ⟨g, 0, none⟩) := by simpa using hp
  have hl := run_loadVar_row w g 39 39 #[.int .i64 k, .string t] (0, 0) _ hg Tryd.underlying39 rfl (by kernel_rfl)
  simp [results, h, hp', asAddr, hl]
theorem ventry_any (t : ByteArray) (w : World) : Calls Tryd.prog 51 #[.string t] w fun e w' => e = .returned (.agg #[.int .i64 3, .string t]) ∧ Below w.heap.size w w' := by
  have hb1 : Below w.heap.size w (w.alloc (.cells #[.int .i64 0, .string ⟨#[]⟩] 39)) := (Below.refl _ w).alloc (Nat.le_refl _) _
  have hB := Blk.new w 39 #[.int .i64 0, .string ⟨#[]⟩]
  obtain ⟨u, hu⟩ : ∃ u, u = w.alloc (.cells #[.int .i64 0, .string ⟨#[]⟩] 39) := ⟨_, rfl⟩
  rw [← hu] at hb1 hB
  have HU := Lib.hid hu
  have HB := Lib.hid hb1
  have HBL := Lib.hid hB
  have c0 : u.cell? ⟨w.heap.size, 0, none⟩ = some (.int .i64 0) := hB.cell 0
  have c1 : u.cell? ⟨w.heap.size, 1, none⟩ = some (.string ⟨#[]⟩) := hB.cell 1
  have f0 := hB.frozen 0
  have f1 := hB.frozen 1
  clear hu hb1 hB
  go_enter Tryd.func51, Tryd.ntmps51
  go_upto_region 1 with fail
  rw [← HU.out]
  go_wp2_with fail
  have hfin := (HBL.out.set_ 0 (.int .i64 3)).set_ 1 (.string t)
  refine bodyPost_ret (results_recv rfl _ _ w.heap.size 3 t rfl hfin) rfl ⟨rfl, ?_⟩
  exact (HB.out.setCell (p := ⟨w.heap.size, 0, none⟩) (Nat.le_refl _) _).setCell (p := ⟨w.heap.size, 1, none⟩) (Nat.le_refl _) _
section
variable {G : Nat → Prop} {w : World} {g : Nat} {v : Vt} {pc po bc bo : Value} {A B : Nat → Prop}
set_option maxHeartbeats 4000000 in
theorem vuse_any (h : VtOf G w g v pc po bc bo A B) : Calls Tryd.prog 33 #[.pointer (some ⟨g, 0, none⟩)] w fun e w' => e = .returned (.tuple #[.int .i64 v.use, .int .i64 v.no]) ∧ Below w.heap.size w w' := by
  have c0 := h.blk.c0
  have c3 := h.blk.c3
  have c4 := h.blk.c4
  have HM := Lib.hid (vmade_ok g w c0)
  clear h c0
  go_enter Tryd.func33, Tryd.ntmps33
  go_wp2_with (go_at_call 50; (with_reducible refine HM.out.mono ?_); rintro e w1 ⟨rfl, rfl⟩)
  go_quiet (fail)
  go_wp2_with fail
  refine bodyPost_ret (results_tmp2 rfl _ _ _) rfl ⟨rfl, below_drewN (Below.refl _ _) _⟩
end
end Go.Proofs.YtkbbeioednhefaaDoor.vt

namespace Go.Proofs.YtkbbeioednhefaaDoor.oct
open Go.RowKit Go.Proofs.YtkbbeioednhefaaDoor.mem

theorem end_stuck (p : Option Addr) (e0 : Int) (w : World) (h : RFault w p e0) (h0 : e0 ≠ 0) :
    Calls Tryd.prog 87 #[.pointer p] w fun e w' => e = .returned (.int .i64 e0) ∧ w = w' := by
  have hd : (e0 != 0) = true := by simpa using h0
  clear h0
  go_enter Tryd.func87, Tryd.ntmps87
  go_wp2_with (go_at_call 95; refine (err_any _ _ _ h).mono ?_; rintro e w' ⟨rfl, rfl⟩)
  go_ret
  exact ⟨rfl, rfl⟩
theorem end_ok (g : Nat) (rest : ByteArray) (w : World) (h : RBlk w g rest 0) :
    Calls Tryd.prog 87 #[.pointer (some ⟨g, 0, none⟩)] w fun e w' => e = .returned (.int .i64 (if rest.data.toList.isEmpty then 0 else 4)) ∧ w = w' := by
  have c1 := h.c1
  by_cases he : rest.data.toList.isEmpty = true
  · rw [if_pos he]
    have h2 : (!rest.toList.isEmpty) = false := by rw [ByteArray.toList_eq, he]; rfl
    go_enter Tryd.func87, Tryd.ntmps87
    go_wp2_with (go_at_call 95; refine (err_ok _ _ _ _ h).mono ?_; rintro e w' ⟨rfl, rfl⟩)
    go_ret
    exact ⟨rfl, rfl⟩
  · rw [if_neg he]
    have he : rest.data.toList.isEmpty = false := by simpa using he
    have h2 : (!rest.toList.isEmpty) = true := by rw [ByteArray.toList_eq, he]; rfl
    go_enter Tryd.func87, Tryd.ntmps87
    go_wp2_with (go_at_call 95; refine (err_ok _ _ _ _ h).mono ?_; rintro e w' ⟨rfl, rfl⟩)
    go_ret
    exact ⟨rfl, rfl⟩
theorem end_any (g : Nat) (rest : ByteArray) (err : Int) (w : World) (h : RBlk w g rest err) :
    Calls Tryd.prog 87 #[.pointer (some ⟨g, 0, none⟩)] w fun e w' => e = .returned (.int .i64 (rEnd (rest, err))) ∧ w = w' := by
  by_cases he : err = 0
  · subst he
    have e2 : rEnd (rest, 0) = if rest.data.toList.isEmpty then 0 else 4 := by unfold rEnd; rw [if_neg (by simp)]
    rw [e2]
    exact end_ok g rest w h
  · have e2 : rEnd (rest, err) = err := by unfold rEnd; rw [if_pos he]
    rw [e2]
    exact end_stuck _ err w h.fault he
end Go.Proofs.YtkbbeioednhefaaDoor.oct

namespace Go.Proofs.YtkbbeioednhefaaDoor.opn
open Go.RowKit Go.Proofs.YtkbbeioednhefaaDoor.mem Go.Proofs.YtkbbeioednhefaaDoor.sha

theorem lsr_end {x : ByteArray × Int} {st : St} (h : Sr x st) : oct.rEnd x = endE st := by
  unfold oct.rEnd endE
  rw [h.1]
  by_cases h0 : x.2 = 0
  · have hn : ¬ (x.2 ≠ 0) := fun hh => hh h0
    rw [if_neg hn, if_neg hn, h.2 h0, oct.tx_list]
    cases st.1 with
    | nil => rfl
    | cons a l => rw [if_neg (by simp), if_neg (by simp)]
  · rw [if_pos h0, if_pos h0]
theorem lend_s (g : Nat) (st : St) (w : World) (h : RdL w g st) :
    Calls Tryd.prog 87 #[.pointer (some ⟨g, 0, none⟩)] w fun e w' => e = .returned (.int .i64 (endE st)) ∧ w = w' := by
  obtain ⟨s, e, hx, hs, -⟩ := h
  rw [← lsr_end hs]
  exact oct.end_any g s e w hx
end Go.Proofs.YtkbbeioednhefaaDoor.opn
