/-
  The order of ids as the library's sort sees it; a row of ids that is being sorted; what 'less' and 'swap' do to it.
-/
import Derived.Test.YtfcoecojjciphaaIdsp
import Derived.Test.YtfcoecojjciphaaSrtl
import Derived.Lib.ReflectliteSwap
namespace Go.Proofs.Ytfcoecojjciphaa.srt
open Go.RowKit Go.Proofs.Ytfcoecojjciphaa.mem Go.Proofs.Ytfcoecojjciphaa.sha Go.Proofs.Ytfcoecojjciphaa.ids Go.Sort

abbrev I32 := {x : List UInt8 // x.length = 32}
instance : Inhabited I32 := ⟨⟨List.replicate 32 0, rfl⟩⟩
def enc (x : I32) : List Value := bv x.1
theorem enc_len (x : I32) : (enc x).length = 32 := by unfold enc; rw [bv_length]; exact x.2
theorem enc_one (x : I32) : ∀ v ∈ enc x, v.oneCell' = true := by
  intro v hv
  simp only [enc, bv, List.mem_map] at hv
  obtain ⟨y, _, rfl⟩ := hv
  rfl
def lt (x y : I32) : Bool := decide (cmpL x.1 y.1 < 0)
theorem swo : SWO lt where
  irrefl x := by unfold lt; rw [cmpL_self]; rfl
  trans x y z h k := decide_eq_true (cmpL_trans _ _ _ (of_decide_eq_true h) (of_decide_eq_true k))
  ntrans x y z h k := by
    have h1 : ¬ cmpL x.1 y.1 < 0 := of_decide_eq_false h
    have h2 : ¬ cmpL y.1 z.1 < 0 := of_decide_eq_false k
    refine decide_eq_false fun h3 => ?_
    have e1 := cmpL_neg x.1 y.1
    rcases Int.lt_or_eq_of_le (show cmpL y.1 x.1 ≤ 0 by omega) with h4 | h4
    · exact h2 (cmpL_trans _ _ _ h4 h3)
    · rw [cmpL_zero _ _ h4] at h2
      exact h2 h3

/-- the row: its block, its place, how many ids; it holds d -/
structure St (blk off n : Nat) (d : Array I32) (w : World) : Prop where
  size : d.size = n
  holds : HoldsK enc 32 w blk off d
  lt : blk < w.heap.size
/-- the row keeps its size, its type and its mark -/
def Keeps (blk : Nat) (w w' : World) : Prop := ∀ (t : TypeId) (m : Nat × Nat) (cur : Array Value), w.heap[blk]? = some (.cells cur t m) → ∃ cur', w'.heap[blk]? = some (.cells cur' t m) ∧ cur'.size = cur.size
theorem Keeps.refl (blk : Nat) (w : World) : Keeps blk w w := fun _ _ cur h => ⟨cur, h, rfl⟩
theorem Keeps.trans {blk : Nat} {w w' w'' : World} (h : Keeps blk w w') (k : Keeps blk w' w'') : Keeps blk w w'' := fun t m cur hc => by
  obtain ⟨c1, h1, e1⟩ := h t m cur hc
  obtain ⟨c2, h2, e2⟩ := k t m c1 h1
  exact ⟨c2, h2, e2.trans e1⟩
theorem Keeps.of {blk : Nat} {w w' : World} (h : blk < w.heap.size → w'.heap[blk]? = w.heap[blk]?) : Keeps blk w w' := fun t m cur hc => ⟨cur, (h (Array.getElem?_eq_some_iff.1 hc).1).trans hc, rfl⟩
/-- only the row has turned, and new blocks -/
structure Tr (blk : Nat) (w w' : World) : Prop where
  turn : Turn (fun k => k = blk ∨ w.heap.size ≤ k) w w'
  keeps : Keeps blk w w'

section
variable {blk off n : Nat} {d : Array I32} {w w' w'' : World}
theorem St.below (h : St blk off n d w) (hb : RowKit.Below w.heap.size w w') : St blk off n d w' :=
  ⟨h.size, fun j hj => ⟨(hb.cell (p := ⟨blk, off + j, none⟩) h.lt).trans (h.holds j hj).1, (World.frozen?_of_block (hb.block blk h.lt)).trans (h.holds j hj).2⟩, Nat.lt_of_lt_of_le h.lt hb.size⟩
theorem Tr.refl (blk : Nat) (w : World) : Tr blk w w := ⟨Turn.refl _ w, Keeps.refl _ w⟩
theorem Tr.trans (h : Tr blk w w') (k : Tr blk w' w'') : Tr blk w w'' := ⟨Turn.trans h.turn (Turn.mono k.turn fun i hi => hi.imp id fun hi => Nat.le_trans h.turn.size hi), h.keeps.trans k.keeps⟩
theorem Tr.below (hb : RowKit.Below w.heap.size w w') : Tr blk w w' := ⟨Turn.mono (Turn.ofBelow hb) fun k hk => .inr hk, Keeps.of fun h => hb.block blk h⟩
theorem Tr.cell (h : Tr blk w w') {p : Addr} (hp : p.block < w.heap.size) (hne : p.block ≠ blk) : w'.cell? p = w.cell? p := World.cell?_of_block (h.turn.block p.block fun e => by rcases e with e | e; exact hne e; exact absurd hp (by omega))
theorem Tr.keep (h : Tr blk w w') {g : Nat} {t : TypeId} {cs : Array Value} (hg : Blk w g t cs) (hne : g ≠ blk) : Blk w' g t cs := hg.turn h.turn fun e => by rcases e with e | e; exact hne e; exact absurd hg.lt (by omega)
theorem Tr.le (h : Tr blk w w') : w.heap.size ≤ w'.heap.size := h.turn.size
end

/-- what the sort is handed: 'less' and 'swap' as values, and what they do -/
structure Env (V H : Value) (blk off n : Nat) : Prop where
  less : ∀ (d : Array I32) (w : World) (i j : Nat), St blk off n d w → i < n → j < n →
    Calls Try.prog 35 #[V, .int .i64 i, .int .i64 j] w fun e w' => e = .returned (.bool (lt d[i]! d[j]!)) ∧ RowKit.Below w.heap.size w w'
  swap : ∀ (d : Array I32) (w : World) (i j : Nat), St blk off n d w → i < n → j < n →
    ∃ w', (callFunc 66 #[.int .i64 i, .int .i64 j, V, H]).run Try.prog w = .ok (.value (.tuple #[])) w' ∧ St blk off n (swp d i j) w' ∧ Tr blk w w'
def fL (V : Value) : Value := .func (.func 35) #[V] #[]
def fS (V H : Value) : Value := .func (.func 66) #[] #[V, H]
theorem enters_less : ∀ (args : Array Value) (w : World), (callFunc 35 args).run Try.prog w = .ok (.enter 35 args) w := enters_of Try.func35 (by kernel_rfl) rfl

/-- the pair of both -/
def dat (V H : Value) : Value := .agg #[.func (.func 35) #[V] #[], .func (.func 66) #[] #[V, H]]
def datObj (V H : Value) : Obj := .cells #[.func (.func 35) #[V] #[], .func (.func 66) #[] #[V, H]] 69
/-- a variable of the call's own that holds the pair -/
structure Bx (V H : Value) (blk B : Nat) (w : World) : Prop where
  less : w.cell? ⟨B, 0, none⟩ = some (.func (.func 35) #[V] #[])
  swap : w.cell? ⟨B, 1, none⟩ = some (.func (.func 66) #[] #[V, H])
  ne : B ≠ blk
  lt : B < w.heap.size
theorem Bx.turn {V H : Value} {blk B : Nat} {w w' : World} (h : Bx V H blk B w) (ht : Tr blk w w') : Bx V H blk B w' :=
  ⟨(ht.cell h.lt h.ne).trans h.less, (ht.cell h.lt h.ne).trans h.swap, h.ne, Nat.lt_of_lt_of_le h.lt ht.le⟩
theorem Bx.new {V H : Value} {blk off n : Nat} {d : Array I32} {w : World} (h : St blk off n d w) : Bx V H blk w.heap.size (w.alloc (datObj V H)) :=
  ⟨by simp [datObj], by simp [datObj], fun e => by have := h.lt; omega, by simp⟩
theorem St.boxed {V H : Value} {blk off n : Nat} {d : Array I32} {w : World} (h : St blk off n d w) : St blk off n d (w.alloc (datObj V H)) := h.below ((RowKit.Below.refl _ w).alloc (Nat.le_refl _) _)
theorem Tr.boxed (V H : Value) (blk : Nat) (w : World) : Tr blk w (w.alloc (datObj V H)) := Tr.below ((RowKit.Below.refl _ w).alloc (Nat.le_refl _) _)
/-- less and swap, from a row and a box -/
theorem Env.lessC {V H : Value} {blk off n : Nat} (E : Env V H blk off n) {d : Array I32} {w : World} (h : St blk off n d w) {i j : Nat} (hi : i < n) (hj : j < n) {x y : Int} (hx : x = (i : Int)) (hy : y = (j : Int)) {r : Bool} (hr : lt d[i]! d[j]! = r) :
    Calls Try.prog 35 #[V, .int .i64 x, .int .i64 y] w fun e w' => e = .returned (.bool r) ∧ St blk off n d w' ∧ Tr blk w w' := by
  subst hx; subst hy; subst hr
  exact (E.less d w i j h hi hj).mono fun e w' ⟨he, hb⟩ => ⟨he, h.below hb, Tr.below hb⟩
theorem Env.swapC {V H : Value} {blk off n : Nat} (E : Env V H blk off n) {d : Array I32} {w : World} (h : St blk off n d w) {i j : Nat} (hi : i < n) (hj : j < n) {x y : Int} (hx : x = (i : Int)) (hy : y = (j : Int)) :
    ∃ w', (callFunc 66 #[.int .i64 x, .int .i64 y, V, H]).run Try.prog w = .ok (.value (.tuple #[])) w' ∧ St blk off n (swp d i j) w' ∧ Tr blk w w' := by
  subst hx; subst hy
  exact E.swap d w i j h hi hj

/-- the model's own literal -/
theorem swap_holds (blk off n cap : Nat) (d : Array I32) (w : World) (i j : Nat) (hs : St blk off n d w) (hi : i < n) (hj : j < n) :
    ∃ w', (callFunc 66 #[.int .i64 i, .int .i64 j, .slice (some ⟨blk, off, none⟩) n cap, typeHandle Try.prog 23]).run Try.prog w = .ok (.value (.tuple #[])) w' ∧ St blk off n (swp d i j) w' ∧ Tr blk w w' := by
  have hsz := hs.size
  subst hsz
  obtain ⟨ie, hie, hz⟩ : ∃ ie, Try.prog.info? 23 = some ie ∧ ie.size = 32 := by
    have h := info_id'
    cases hx : Try.prog.info? 23 with
    | none => rw [hx] at h; cases h
    | some ie => rw [hx] at h; exact ⟨ie, rfl, by injection h⟩
  have h := swapSwapsK_of_literal (P := Try.prog) false 66
    (fun args W => run_callFunc_extern Try.func66 (by kernel_rfl) (by kernel_rfl) (by kernel_rfl) (e := Extern.ReflectliteSwapper.swap false) (by kernel_rfl) args W)
    23 ie hie enc 32 enc_len hz (fun w => by kernel_rfl) enc_one blk off d.size cap w d hs.holds rfl i j hi hj
  have hk : SWK enc 32 w blk off (swp d i j) _ := (SWK.start hs.holds).swap enc_len hs.lt i j hi hj
  refine ⟨_, h, ⟨size_swp d i j, hk.holds hs.lt hs.holds (size_swp d i j), hk.lt hs.lt⟩, ?_⟩
  obtain ⟨m, os, e⟩ := hk
  rw [e]
  refine ⟨⟨rfl, rfl, rfl, ?_, fun k hk => ?_⟩, fun t mk cur hc => ?_⟩
  · unfold sortWorldK; rw [size_grow, size_putRowK]; exact Nat.le_add_right _ _
  · unfold sortWorldK
    have hlt : k < w.heap.size := by rcases Nat.lt_or_ge k w.heap.size with h | h; exact h; exact absurd (.inr h) hk
    have hne : ¬ blk = k := fun e => hk (.inl e.symm)
    rw [heap_grow_old _ _ (by rw [size_putRowK]; exact hlt)]
    simp [putRowK, putRow, mapBlock, Array.getElem?_modify, hne]
  · unfold sortWorldK
    rw [heap_grow_old _ _ (by rw [size_putRowK]; exact hs.lt)]
    exact ⟨putCells id off (flatK enc 32 (swp d i j)) cur, by simp [putRowK, putRow, mapBlock, onCells, Array.getElem?_modify, Sort.ahead, hc], by unfold putCells; rw [Array.size_mapIdx]⟩
end Go.Proofs.Ytfcoecojjciphaa.srt
