/-
  The library's sort.Slice, as it stands in this seat, against the kit's contracts.
  The order of ids as the library's sort sees it; a row of ids that is being sorted; what 'less' and 'swap' do to it.
  The library's heap, sifted down, over a row of ids.
  The library's heap sort over a row of ids.
  The library's choice of a pivot over a row of ids.
  The library's medians and its choice of a pivot over a row of ids.
  The library's choice of a pivot over a row of ids.
-/
import Derived.Test.YtpeneeddfgmjpaaGreatDoorChecked
import Derived.Shelf.SlSortFuncK.WholeK
import Derived.Test.YtpeneeddfgmjpaaGreatDoorIdsp
import Derived.Lib.ReflectliteSwap
import Derived.Deep.LoopGhost
import Derived.Sort.WalkB2
namespace Go.Proofs.YtpeneeddfgmjpaaGreatDoor.srt
open Go.Shelf Go.Proofs
def ren : Ren := ⟨fun | 6 => 71 | 10 => 94 | 11 => 95 | 12 => 96 | 13 => 37 | 14 => 97 | 24 => 66 | 25 => 67 | 26 => 123 | 27 => 124 | 28 => 125 | 29 => 126 | 30 => 127 | 31 => 128 | 32 => 129 | 33 => 130 | 34 => 133 | 35 => 134 | 36 => 135 | 37 => 136 | 38 => 137 | 39 => 139 | n => n, fun | 0 => 0 | 3 => 3 | 4 => 4 | 5 => 5 | 9 => 9 | 12 => 12 | 17 => 17 | 20 => 20 | 26 => 101 | 32 => 129 | 33 => 130 | 35 => 132 | 37 => 134 | 41 => 68 | 44 => 139 | 49 => 97 | 51 => 99 | 53 => 166 | 54 => 167 | 58 => 51 | 60 => 174 | 64 => 126 | 66 => 177 | 67 => 160 | 75 => 184 | 76 => 185 | 77 => 186 | 78 => 187 | 79 => 188 | 80 => 189 | 82 => 191 | n => n, fun n => n⟩
theorem lays : LaysGg.n6 Tryz.prog ren := {
 mixed := by kernel_rfl,
 f6 := Tryz.func71.trans (congrArg some (by kernel_rfl)),
 f10 := Tryz.func94.trans (congrArg some (by kernel_rfl)),
 f11 := Tryz.func95.trans (congrArg some (by kernel_rfl)),
 f12 := Tryz.func96.trans (congrArg some (by kernel_rfl)),
 f13 := Tryz.func37.trans (congrArg some (by kernel_rfl)),
 f14 := Tryz.func97.trans (congrArg some (by kernel_rfl)),
 f24 := Tryz.func66.trans (congrArg some (by kernel_rfl)),
 f25 := Tryz.func67.trans (congrArg some (by kernel_rfl)),
 f26 := Tryz.func123.trans (congrArg some (by kernel_rfl)),
 f27 := Tryz.func124.trans (congrArg some (by kernel_rfl)),
 f28 := Tryz.func125.trans (congrArg some (by kernel_rfl)),
 f29 := Tryz.func126.trans (congrArg some (by kernel_rfl)),
 f30 := Tryz.func127.trans (congrArg some (by kernel_rfl)),
 f31 := Tryz.func128.trans (congrArg some (by kernel_rfl)),
 f32 := Tryz.func129.trans (congrArg some (by kernel_rfl)),
 f33 := Tryz.func130.trans (congrArg some (by kernel_rfl)),
 f34 := Tryz.func133.trans (congrArg some (by kernel_rfl)),
 f35 := Tryz.func134.trans (congrArg some (by kernel_rfl)),
 f36 := Tryz.func135.trans (congrArg some (by kernel_rfl)),
 f37 := Tryz.func136.trans (congrArg some (by kernel_rfl)),
 f38 := Tryz.func137.trans (congrArg some (by kernel_rfl)),
 f39 := Tryz.func139.trans (congrArg some (by kernel_rfl)),
 t0 := Tryz.underlying0,
 a0 := Tryz.isAgg0,
 z0 := Tryz.sizeOf0,
 v0 := Tryz.zeroValue0,
 i0 := by kernel_rfl,
 t3 := Tryz.underlying3,
 a3 := Tryz.isAgg3,
 z3 := Tryz.sizeOf3,
 v3 := Tryz.zeroValue3,
 i3 := by kernel_rfl,
 t4 := Tryz.underlying4,
 a4 := Tryz.isAgg4,
 z4 := Tryz.sizeOf4,
 v4 := Tryz.zeroValue4,
 i4 := by kernel_rfl,
 t5 := Tryz.underlying5,
 a5 := Tryz.isAgg5,
 z5 := Tryz.sizeOf5,
 v5 := Tryz.zeroValue5,
 i5 := by kernel_rfl,
 t9 := Tryz.underlying9,
 a9 := Tryz.isAgg9,
 z9 := Tryz.sizeOf9,
 v9 := Tryz.zeroValue9,
 i9 := by kernel_rfl,
 t12 := Tryz.underlying12,
 a12 := Tryz.isAgg12,
 z12 := Tryz.sizeOf12,
 v12 := Tryz.zeroValue12,
 i12 := by kernel_rfl,
 t17 := Tryz.underlying17,
 a17 := Tryz.isAgg17,
 z17 := Tryz.sizeOf17,
 v17 := Tryz.zeroValue17,
 i17 := by kernel_rfl,
 t20 := Tryz.underlying20,
 a20 := Tryz.isAgg20,
 z20 := Tryz.sizeOf20,
 v20 := Tryz.zeroValue20,
 i20 := by kernel_rfl,
 t26 := Tryz.underlying101,
 a26 := Tryz.isAgg101,
 z26 := Tryz.sizeOf101,
 v26 := Tryz.zeroValue101,
 i26 := by kernel_rfl,
 t32 := Tryz.underlying129,
 a32 := Tryz.isAgg129,
 z32 := Tryz.sizeOf129,
 v32 := Tryz.zeroValue129,
 i32 := by kernel_rfl,
 t33 := Tryz.underlying130,
 a33 := Tryz.isAgg130,
 z33 := Tryz.sizeOf130,
 v33 := Tryz.zeroValue130,
 i33 := by kernel_rfl,
 t35 := Tryz.underlying132,
 a35 := Tryz.isAgg132,
 z35 := Tryz.sizeOf132,
 v35 := Tryz.zeroValue132,
 i35 := by kernel_rfl,
 t37 := Tryz.underlying134,
 a37 := Tryz.isAgg134,
 z37 := Tryz.sizeOf134,
 v37 := Tryz.zeroValue134,
 i37 := by kernel_rfl,
 t41 := Tryz.underlying68,
 a41 := Tryz.isAgg68,
 z41 := Tryz.sizeOf68,
 v41 := Tryz.zeroValue68,
 i41 := by kernel_rfl,
 t44 := Tryz.underlying139,
 a44 := Tryz.isAgg139,
 z44 := Tryz.sizeOf139,
 v44 := Tryz.zeroValue139,
 i44 := by kernel_rfl,
 t49 := Tryz.underlying97,
 a49 := Tryz.isAgg97,
 z49 := Tryz.sizeOf97,
 v49 := Tryz.zeroValue97,
 i49 := by kernel_rfl,
 t51 := Tryz.underlying99,
 a51 := Tryz.isAgg99,
 z51 := Tryz.sizeOf99,
 v51 := Tryz.zeroValue99,
 i51 := by kernel_rfl,
 t53 := Tryz.underlying166,
 a53 := Tryz.isAgg166,
 z53 := Tryz.sizeOf166,
 v53 := Tryz.zeroValue166,
 i53 := by kernel_rfl,
 t54 := Tryz.underlying167,
 a54 := Tryz.isAgg167,
 z54 := Tryz.sizeOf167,
 v54 := Tryz.zeroValue167,
 i54 := by kernel_rfl,
 t58 := Tryz.underlying51,
 a58 := Tryz.isAgg51,
 z58 := Tryz.sizeOf51,
 v58 := Tryz.zeroValue51,
 i58 := by kernel_rfl,
 t60 := Tryz.underlying174,
 a60 := Tryz.isAgg174,
 z60 := Tryz.sizeOf174,
 v60 := Tryz.zeroValue174,
 i60 := by kernel_rfl,
 t64 := Tryz.underlying126,
 a64 := Tryz.isAgg126,
 z64 := Tryz.sizeOf126,
 v64 := Tryz.zeroValue126,
 i64 := by kernel_rfl,
 t66 := Tryz.underlying177,
 a66 := Tryz.isAgg177,
 z66 := Tryz.sizeOf177,
 v66 := Tryz.zeroValue177,
 i66 := by kernel_rfl,
 t67 := Tryz.underlying160,
 a67 := Tryz.isAgg160,
 z67 := Tryz.sizeOf160,
 v67 := Tryz.zeroValue160,
 i67 := by kernel_rfl,
 t75 := Tryz.underlying184,
 a75 := Tryz.isAgg184,
 z75 := Tryz.sizeOf184,
 v75 := Tryz.zeroValue184,
 i75 := by kernel_rfl,
 t76 := Tryz.underlying185,
 a76 := Tryz.isAgg185,
 z76 := Tryz.sizeOf185,
 v76 := Tryz.zeroValue185,
 i76 := by kernel_rfl,
 t77 := Tryz.underlying186,
 a77 := Tryz.isAgg186,
 z77 := Tryz.sizeOf186,
 v77 := Tryz.zeroValue186,
 i77 := by kernel_rfl,
 t78 := Tryz.underlying187,
 a78 := Tryz.isAgg187,
 z78 := Tryz.sizeOf187,
 v78 := Tryz.zeroValue187,
 i78 := by kernel_rfl,
 t79 := Tryz.underlying188,
 a79 := Tryz.isAgg188,
 z79 := Tryz.sizeOf188,
 v79 := Tryz.zeroValue188,
 i79 := by kernel_rfl,
 t80 := Tryz.underlying189,
 a80 := Tryz.isAgg189,
 z80 := Tryz.sizeOf189,
 v80 := Tryz.zeroValue189,
 i80 := by kernel_rfl,
 t82 := Tryz.underlying191,
 a82 := Tryz.isAgg191,
 z82 := Tryz.sizeOf191,
 v82 := Tryz.zeroValue191,
 i82 := by kernel_rfl }
end Go.Proofs.YtpeneeddfgmjpaaGreatDoor.srt

namespace Go.Proofs.YtpeneeddfgmjpaaGreatDoor.srt
open Go.RowKit Go.Proofs.YtpeneeddfgmjpaaGreatDoor.mem Go.Proofs.YtpeneeddfgmjpaaGreatDoor.sha Go.Proofs.YtpeneeddfgmjpaaGreatDoor.ids Go.Sort

abbrev I32 := {x : List UInt8 // x.length = 32}
instance : Inhabited I32 := ⟨⟨List.replicate 32 0, rfl⟩⟩
def enc (x : I32) : List Value := bv x.1
theorem enc_len (x : I32) : (enc x).length = 32 := by unfold enc; rw [bv_length]; exact x.2
theorem enc_one (x : I32) : ∀ v ∈ enc x, v.oneCell' = true := by
 intro v hv
 simp only [enc, bv, List.mem_map] at hv
 obtain ⟨y, _, rfl⟩ := hv
 rfl
def lt (x y : I32) : Bool := decide (cmpL x.1 y.1 < 0)
theorem swo : SWO lt where
 irrefl x := by unfold lt; rw [cmpL_self]; rfl
 trans x y z h k := decide_eq_true (cmpL_trans _ _ _ (of_decide_eq_true h) (of_decide_eq_true k))
 ntrans x y z h k := by
  have h1 : ¬ cmpL x.1 y.1 < 0 := of_decide_eq_false h
  have h2 : ¬ cmpL y.1 z.1 < 0 := of_decide_eq_false k
  refine decide_eq_false fun h3 => ?_
  have e1 := cmpL_neg x.1 y.1
  rcases Int.lt_or_eq_of_le (show cmpL y.1 x.1 ≤ 0 by omega) with h4 | h4
  ·
   exact h2 (cmpL_trans _ _ _ h4 h3)
  ·
   rw [cmpL_zero _ _ h4] at h2
   exact h2 h3

/-- the row: its block, its place, how many ids; it holds d -/
structure St (blk off n : Nat) (d : Array I32) (w : World) : Prop where
 size : d.size = n
 holds : HoldsK enc 32 w blk off d
 lt : blk < w.heap.size
/-- the row keeps its size, its type and its mark -/
def Keeps (blk : Nat) (w w' : World) : Prop := ∀ (t : TypeId) (m : Nat × Nat) (cur : Array Value), w.heap[blk]? = some (.cells cur t m) → ∃ cur', w'.heap[blk]? = some (.cells cur' t m) ∧ cur'.size = cur.size
theorem Keeps.refl (blk : Nat) (w : World) : Keeps blk w w := fun _ _ cur h => ⟨cur, h, rfl⟩
theorem Keeps.trans {blk : Nat} {w w' w'' : World} (h : Keeps blk w w') (k : Keeps blk w' w'') : Keeps blk w w'' := fun t m cur hc => by
 obtain ⟨c1, h1, e1⟩ := h t m cur hc
 obtain ⟨c2, h2, e2⟩ := k t m c1 h1
 exact ⟨c2, h2, e2.trans e1⟩
theorem Keeps.of {blk : Nat} {w w' : World} (h : blk < w.heap.size → w'.heap[blk]? = w.heap[blk]?) : Keeps blk w w' := fun _t _m cur hc => ⟨cur, (h (Array.getElem?_eq_some_iff.1 hc).1).trans hc, rfl⟩
/-- only the row has turned, and new blocks -/
structure Tr (blk : Nat) (w w' : World) : Prop where
 turn : Turn (fun k => k = blk ∨ w.heap.size ≤ k) w w'
 keeps : Keeps blk w w'

section
variable {blk off n : Nat} {d : Array I32} {w w' w'' : World}
theorem St.below (h : St blk off n d w) (hb : RowKit.Below w.heap.size w w') : St blk off n d w' :=
 ⟨h.size, fun j hj => ⟨(hb.cell (p := ⟨blk, off + j, none⟩) h.lt).trans (h.holds j hj).1, (World.frozen?_of_block (hb.block blk h.lt)).trans (h.holds j hj).2⟩, Nat.lt_of_lt_of_le h.lt hb.size⟩
theorem Tr.refl (blk : Nat) (w : World) : Tr blk w w := ⟨Turn.refl _ w, Keeps.refl _ w⟩
theorem Tr.trans (h : Tr blk w w') (k : Tr blk w' w'') : Tr blk w w'' := ⟨Turn.trans h.turn (Turn.mono k.turn fun _i hi => hi.imp id fun hi => Nat.le_trans h.turn.size hi), h.keeps.trans k.keeps⟩
theorem Tr.below (hb : RowKit.Below w.heap.size w w') : Tr blk w w' := ⟨Turn.mono (Turn.ofBelow hb) fun _k hk => .inr hk, Keeps.of fun h => hb.block blk h⟩
theorem Tr.cell (h : Tr blk w w') {p : Addr} (hp : p.block < w.heap.size) (hne : p.block ≠ blk) : w'.cell? p = w.cell? p := World.cell?_of_block (h.turn.block p.block fun e => by rcases e with e | e; exact hne e; exact absurd hp (by omega))
theorem Tr.keep (h : Tr blk w w') {g : Nat} {t : TypeId} {cs : Array Value} (hg : Blk w g t cs) (hne : g ≠ blk) : Blk w' g t cs := hg.turn h.turn fun e => by rcases e with e | e; exact hne e; exact absurd hg.lt (by omega)
theorem Tr.le (h : Tr blk w w') : w.heap.size ≤ w'.heap.size := h.turn.size
end

/-- what the sort is handed: 'less' and 'swap' as values, and what they do -/
structure Env (V H : Value) (blk off n : Nat) : Prop where
 less : ∀ (d : Array I32) (w : World) (i j : Nat), St blk off n d w → i < n → j < n →
  Calls Tryz.prog 70 #[V, .int .i64 i, .int .i64 j] w fun e w' => e = .returned (.bool (lt d[i]! d[j]!)) ∧ RowKit.Below w.heap.size w w'
 swap : ∀ (d : Array I32) (w : World) (i j : Nat), St blk off n d w → i < n → j < n →
  ∃ w', (callFunc 122 #[.int .i64 i, .int .i64 j, V, H]).run Tryz.prog w = .ok (.value (.tuple #[])) w' ∧ St blk off n (swp d i j) w' ∧ Tr blk w w'
def fL (V : Value) : Value := .func (.func 70) #[V] #[]
def fS (V H : Value) : Value := .func (.func 122) #[] #[V, H]
theorem enters_less : ∀ (args : Array Value) (w : World), (callFunc 70 args).run Tryz.prog w = .ok (.enter 70 args) w := enters_of Tryz.func70 (by kernel_rfl) rfl

/-- the pair of both -/
def dat (V H : Value) : Value := .agg #[.func (.func 70) #[V] #[], .func (.func 122) #[] #[V, H]]
def datObj (V H : Value) : Obj := .cells #[.func (.func 70) #[V] #[], .func (.func 122) #[] #[V, H]] 139
/-- a variable of the call's own that holds the pair -/
structure Bx (V H : Value) (blk B : Nat) (w : World) : Prop where
 less : w.cell? ⟨B, 0, none⟩ = some (.func (.func 70) #[V] #[])
 swap : w.cell? ⟨B, 1, none⟩ = some (.func (.func 122) #[] #[V, H])
 ne : B ≠ blk
 lt : B < w.heap.size
theorem Bx.turn {V H : Value} {blk B : Nat} {w w' : World} (h : Bx V H blk B w) (ht : Tr blk w w') : Bx V H blk B w' :=
 ⟨(ht.cell h.lt h.ne).trans h.less, (ht.cell h.lt h.ne).trans h.swap, h.ne, Nat.lt_of_lt_of_le h.lt ht.le⟩
theorem Bx.new {V H : Value} {blk off n : Nat} {d : Array I32} {w : World} (h : St blk off n d w) : Bx V H blk w.heap.size (w.alloc (datObj V H)) :=
 ⟨by simp [datObj], by simp [datObj], fun e => by have := h.lt; omega, by simp⟩
theorem St.boxed {V H : Value} {blk off n : Nat} {d : Array I32} {w : World} (h : St blk off n d w) : St blk off n d (w.alloc (datObj V H)) := h.below ((RowKit.Below.refl _ w).alloc (Nat.le_refl _) _)
theorem Tr.boxed (V H : Value) (blk : Nat) (w : World) : Tr blk w (w.alloc (datObj V H)) := Tr.below ((RowKit.Below.refl _ w).alloc (Nat.le_refl _) _)
/-- less and swap, from a row and a box -/
theorem Env.lessC {V H : Value} {blk off n : Nat} (E : Env V H blk off n) {d : Array I32} {w : World} (h : St blk off n d w) {i j : Nat} (hi : i < n) (hj : j < n) {x y : Int} (hx : x = (i : Int)) (hy : y = (j : Int)) {r : Bool} (hr : lt d[i]! d[j]! = r) :
  Calls Tryz.prog 70 #[V, .int .i64 x, .int .i64 y] w fun e w' => e = .returned (.bool r) ∧ St blk off n d w' ∧ Tr blk w w' := by
 subst hx; subst hy; subst hr
 exact (E.less d w i j h hi hj).mono fun e w' ⟨he, hb⟩ => ⟨he, h.below hb, Tr.below hb⟩
theorem Env.swapC {V H : Value} {blk off n : Nat} (E : Env V H blk off n) {d : Array I32} {w : World} (h : St blk off n d w) {i j : Nat} (hi : i < n) (hj : j < n) {x y : Int} (hx : x = (i : Int)) (hy : y = (j : Int)) :
  ∃ w', (callFunc 122 #[.int .i64 x, .int .i64 y, V, H]).run Tryz.prog w = .ok (.value (.tuple #[])) w' ∧ St blk off n (swp d i j) w' ∧ Tr blk w w' := by
 subst hx; subst hy
 exact E.swap d w i j h hi hj

/-- the model's own literal -/
theorem swap_holds (blk off n cap : Nat) (d : Array I32) (w : World) (i j : Nat) (hs : St blk off n d w) (hi : i < n) (hj : j < n) :
  ∃ w', (callFunc 122 #[.int .i64 i, .int .i64 j, .slice (some ⟨blk, off, none⟩) n cap, typeHandle Tryz.prog 24]).run Tryz.prog w = .ok (.value (.tuple #[])) w' ∧ St blk off n (swp d i j) w' ∧ Tr blk w w' := by
 have hsz := hs.size
 subst hsz
 obtain ⟨ie, hie, hz⟩ : ∃ ie, Tryz.prog.info? 24 = some ie ∧ ie.size = 32 := by
  have h := info_id'
  cases hx : Tryz.prog.info? 24 with
  | none => rw [hx] at h; cases h
  | some ie => rw [hx] at h; exact ⟨ie, rfl, by injection h⟩
 have h := swapSwapsK_of_literal (P := Tryz.prog) false 122
  (fun args W => run_callFunc_extern Tryz.func122 (by kernel_rfl) (by kernel_rfl) (by kernel_rfl) (e := Extern.ReflectliteSwapper.swap false) (by kernel_rfl) args W)
  24 ie hie enc 32 enc_len hz (fun w => by kernel_rfl) enc_one blk off d.size cap w d hs.holds rfl i j hi hj
 have hk : SWK enc 32 w blk off (swp d i j) _ := (SWK.start hs.holds).swap enc_len hs.lt i j hi hj
 refine ⟨_, h, ⟨size_swp d i j, hk.holds hs.lt hs.holds (size_swp d i j), hk.lt hs.lt⟩, ?_⟩
 obtain ⟨m, os, e⟩ := hk
 rw [e]
 refine ⟨⟨rfl, rfl, rfl, ?_, fun k hk => ?_⟩, fun t mk cur hc => ?_⟩
 ·
  unfold sortWorldK; rw [size_grow, size_putRowK]; exact Nat.le_add_right _ _
 ·
  unfold sortWorldK
  have hlt : k < w.heap.size := by rcases Nat.lt_or_ge k w.heap.size with h | h; exact h; exact absurd (.inr h) hk
  have hne : ¬ blk = k := fun e => hk (.inl e.symm)
  rw [heap_grow_old _ _ (by rw [size_putRowK]; exact hlt)]
  simp [putRowK, putRow, mapBlock, Array.getElem?_modify, hne]
 ·
  unfold sortWorldK
  rw [heap_grow_old _ _ (by rw [size_putRowK]; exact hs.lt)]
  exact ⟨putCells id off (flatK enc 32 (swp d i j)) cur, by simp [putRowK, putRow, mapBlock, onCells, Array.getElem?_modify, Sort.ahead, hc], by unfold putCells; rw [Array.size_mapIdx]⟩
end Go.Proofs.YtpeneeddfgmjpaaGreatDoor.srt

namespace Go.Proofs.YtpeneeddfgmjpaaGreatDoor.srt
open Go.RowKit Go.Proofs.YtpeneeddfgmjpaaGreatDoor.mem Go.Proofs.YtpeneeddfgmjpaaGreatDoor.sha Go.Proofs.YtpeneeddfgmjpaaGreatDoor.ids Go.Sort
set_option maxHeartbeats 2000000 in
set_option maxRecDepth 100000 in
theorem sift_any {V H : Value} {blk off n : Nat} (E : Env V H blk off n) (d : Array I32) (w : World) (lo hi first : Nat) (hs : St blk off n d w) (hlo : lo ≤ hi) (hb : first + hi ≤ n) (hn : n ≤ 1000000000) :
  Calls Tryz.prog 133 #[dat V H, .int .i64 lo, .int .i64 hi, .int .i64 first] w fun e w' => e = .returned (.tuple #[]) ∧ St blk off n (siftDown lt hi first lo d) w' ∧ Tr blk w w' := by
 have HE := Lib.hid E
 have en := enters_less
 have HT0 := Lib.hid (Tr.boxed V H blk w)
 have HS0 := Lib.hid (hs.boxed (V := V) (H := H))
 have HB0 := Lib.hid (Bx.new (V := V) (H := H) hs)
 unfold datObj at HT0 HS0 HB0
 unfold dat
 clear E hs
 go_enter Tryz.func133, Tryz.ntmps133
 go_wp2_with fail
 generalize w.alloc _ = w1 at HT0 HS0 HB0 ⊢
 generalize w.heap.size = B at HB0 ⊢
 go_loopg [8] (hi - lo) (fun gk s8 wr => ∃ (root : Nat) (dk : Array I32), s8 = .int .i64 root ∧ root ≤ hi ∧ hi - root ≤ gk ∧ Hid (St blk off n dk wr) ∧ Hid (Tr blk w1 wr) ∧ Hid (siftDown lt hi first root dk = siftDown lt hi first lo d))
 case atStart => exact ⟨lo, d, rfl, hlo, Nat.le_refl _, HS0.out, Lib.hid (Tr.refl _ _), Lib.hid rfl⟩
 case round =>
  obtain ⟨root, dk, rfl, hr, hgk, HS, HT, HO⟩ := hrel
  clear HS0
  have c0 := (HB0.out.turn HT.out).less
  by_cases h0 : hi ≤ 2 * root + 1
  ·
   have h0z : (hi : Int) ≤ 2 * (root : Int) + 1 := by omega
   clear c0
   go_wp2_with fail
   go_end0
   refine ⟨rfl, ?_, HT0.out.trans HT.out⟩
   rw [← HO.out, sd_end lt dk h0]
   exact HS.out
  ·
   have h0z : ¬ (hi : Int) ≤ 2 * (root : Int) + 1 := by omega
   by_cases h1 : 2 * root + 2 < hi
   ·
    have h1z : 2 * (root : Int) + 1 + 1 < (hi : Int) := by omega
    have h1d : decide (2 * (root : Int) + 1 + 1 < (hi : Int)) = true := decide_eq_true h1z
    cases hL : lt dk[first + (2 * root + 1)]! dk[first + (2 * root + 2)]! with
    | true =>
     cases hG : lt dk[first + root]! dk[first + (2 * root + 2)]! with
     | true =>
      have HN := Lib.hid (sd_right_go lt dk h1 hL hG)
      have HL := Lib.hid (HE.out.lessC HS.out (d := dk) (i := first + (2 * root + 1)) (j := first + (2 * root + 1) + 1) (x := (first : Int) + (2 * (root : Int) + 1)) (y := (first : Int) + (2 * (root : Int) + 1) + 1) (by omega) (by omega) (by omega) (by omega) hL)
      go_wp2_with (first
       | (go_at_fn 70; (with_reducible refine HK.out.mono ?_); rintro e w3 ⟨rfl, hSn, hTn⟩; have HT3 := Lib.hid (HT2.out.trans hTn); have c3 := (HB0.out.turn HT3.out).swap; obtain ⟨w4, hsw, hSs, hTs⟩ := HE.out.swapC hSn (d := dk) (i := first + root) (j := first + (2 * root + 2)) (x := (first : Int) + (root : Int)) (y := (first : Int) + (2 * (root : Int) + 1 + 1)) (by omega) (by omega) (by omega) (by omega); have HS4 := Lib.hid hSs; have HT4 := Lib.hid (HT3.out.trans hTs); clear hSn hTn hSs hTs HT3 HK)
       | (go_at_fn 70; (with_reducible refine HL.out.mono ?_); rintro e w2 ⟨rfl, hSn, hTn⟩; have HS2 := Lib.hid hSn; have HT2 := Lib.hid (HT.out.trans hTn); have c2 := (HB0.out.turn HT2.out).less; clear hSn hTn c0 HL; have HK := Lib.hid (HE.out.lessC HS2.out (d := dk) (i := first + root) (j := first + (2 * root + 2)) (x := (first : Int) + (root : Int)) (y := (first : Int) + (2 * (root : Int) + 1 + 1)) (by omega) (by omega) (by omega) (by omega) hG)))
      go_roundg (hi - (2 * root + 2))
      case measure => omega
      case rel => exact ⟨(2 * root + 2), swp dk (first + root) (first + (2 * root + 2)), by go_num, by omega, Nat.le_refl _, HS4, HT4, Lib.hid (by rw [← HO.out, HN.out])⟩
     | false =>
      have HN := Lib.hid (sd_right_stop lt dk h1 hL hG)
      have HL := Lib.hid (HE.out.lessC HS.out (d := dk) (i := first + (2 * root + 1)) (j := first + (2 * root + 1) + 1) (x := (first : Int) + (2 * (root : Int) + 1)) (y := (first : Int) + (2 * (root : Int) + 1) + 1) (by omega) (by omega) (by omega) (by omega) hL)
      go_wp2_with (first
       | (go_at_fn 70; (with_reducible refine HK.out.mono ?_); rintro e w3 ⟨rfl, hSn, hTn⟩; have HS4 := Lib.hid hSn; have HT4 := Lib.hid (HT2.out.trans hTn); clear hSn hTn HK)
       | (go_at_fn 70; (with_reducible refine HL.out.mono ?_); rintro e w2 ⟨rfl, hSn, hTn⟩; have HS2 := Lib.hid hSn; have HT2 := Lib.hid (HT.out.trans hTn); have c2 := (HB0.out.turn HT2.out).less; clear hSn hTn c0 HL; have HK := Lib.hid (HE.out.lessC HS2.out (d := dk) (i := first + root) (j := first + (2 * root + 2)) (x := (first : Int) + (root : Int)) (y := (first : Int) + (2 * (root : Int) + 1 + 1)) (by omega) (by omega) (by omega) (by omega) hG)))
      (try simp only [Exit.inBlock, Exit.then]); refine bodyPost_ret (results_none rfl _ _ _) rfl ?_
      refine ⟨rfl, ?_, HT0.out.trans HT4.out⟩
      rw [← HO.out, HN.out]
      exact HS4.out
    | false =>
     cases hG : lt dk[first + root]! dk[first + (2 * root + 1)]! with
     | true =>
      have HN := Lib.hid (sd_left_go lt (hi := hi) dk (by omega) (fun _ => hL) hG)
      have HL := Lib.hid (HE.out.lessC HS.out (d := dk) (i := first + (2 * root + 1)) (j := first + (2 * root + 1) + 1) (x := (first : Int) + (2 * (root : Int) + 1)) (y := (first : Int) + (2 * (root : Int) + 1) + 1) (by omega) (by omega) (by omega) (by omega) hL)
      go_wp2_with (first
       | (go_at_fn 70; (with_reducible refine HK.out.mono ?_); rintro e w3 ⟨rfl, hSn, hTn⟩; have HT3 := Lib.hid (HT2.out.trans hTn); have c3 := (HB0.out.turn HT3.out).swap; obtain ⟨w4, hsw, hSs, hTs⟩ := HE.out.swapC hSn (d := dk) (i := first + root) (j := first + (2 * root + 1)) (x := (first : Int) + (root : Int)) (y := (first : Int) + (2 * (root : Int) + 1)) (by omega) (by omega) (by omega) (by omega); have HS4 := Lib.hid hSs; have HT4 := Lib.hid (HT3.out.trans hTs); clear hSn hTn hSs hTs HT3 HK)
       | (go_at_fn 70; (with_reducible refine HL.out.mono ?_); rintro e w2 ⟨rfl, hSn, hTn⟩; have HS2 := Lib.hid hSn; have HT2 := Lib.hid (HT.out.trans hTn); have c2 := (HB0.out.turn HT2.out).less; clear hSn hTn c0 HL; have HK := Lib.hid (HE.out.lessC HS2.out (d := dk) (i := first + root) (j := first + (2 * root + 1)) (x := (first : Int) + (root : Int)) (y := (first : Int) + (2 * (root : Int) + 1)) (by omega) (by omega) (by omega) (by omega) hG)))
      go_roundg (hi - (2 * root + 1))
      case measure => omega
      case rel => exact ⟨(2 * root + 1), swp dk (first + root) (first + (2 * root + 1)), by go_num, by omega, Nat.le_refl _, HS4, HT4, Lib.hid (by rw [← HO.out, HN.out])⟩
     | false =>
      have HN := Lib.hid (sd_left_stop lt (hi := hi) dk (by omega) (fun _ => hL) hG)
      have HL := Lib.hid (HE.out.lessC HS.out (d := dk) (i := first + (2 * root + 1)) (j := first + (2 * root + 1) + 1) (x := (first : Int) + (2 * (root : Int) + 1)) (y := (first : Int) + (2 * (root : Int) + 1) + 1) (by omega) (by omega) (by omega) (by omega) hL)
      go_wp2_with (first
       | (go_at_fn 70; (with_reducible refine HK.out.mono ?_); rintro e w3 ⟨rfl, hSn, hTn⟩; have HS4 := Lib.hid hSn; have HT4 := Lib.hid (HT2.out.trans hTn); clear hSn hTn HK)
       | (go_at_fn 70; (with_reducible refine HL.out.mono ?_); rintro e w2 ⟨rfl, hSn, hTn⟩; have HS2 := Lib.hid hSn; have HT2 := Lib.hid (HT.out.trans hTn); have c2 := (HB0.out.turn HT2.out).less; clear hSn hTn c0 HL; have HK := Lib.hid (HE.out.lessC HS2.out (d := dk) (i := first + root) (j := first + (2 * root + 1)) (x := (first : Int) + (root : Int)) (y := (first : Int) + (2 * (root : Int) + 1)) (by omega) (by omega) (by omega) (by omega) hG)))
      (try simp only [Exit.inBlock, Exit.then]); refine bodyPost_ret (results_none rfl _ _ _) rfl ?_
      refine ⟨rfl, ?_, HT0.out.trans HT4.out⟩
      rw [← HO.out, HN.out]
      exact HS4.out
   ·
    have h1z : ¬ 2 * (root : Int) + 1 + 1 < (hi : Int) := by omega
    have h1d : decide (2 * (root : Int) + 1 + 1 < (hi : Int)) = false := decide_eq_false h1z
    cases hG : lt dk[first + root]! dk[first + (2 * root + 1)]! with
    | true =>
     have HN := Lib.hid (sd_left_go lt (hi := hi) dk (by omega) (fun h => absurd h h1) hG)
     have HK := Lib.hid (HE.out.lessC HS.out (d := dk) (i := first + root) (j := first + (2 * root + 1)) (x := (first : Int) + (root : Int)) (y := (first : Int) + (2 * (root : Int) + 1)) (by omega) (by omega) (by omega) (by omega) hG)
     go_wp2_with (go_at_fn 70; (with_reducible refine HK.out.mono ?_); rintro e w3 ⟨rfl, hSn, hTn⟩; have HT3 := Lib.hid (HT.out.trans hTn); have c3 := (HB0.out.turn HT3.out).swap; obtain ⟨w4, hsw, hSs, hTs⟩ := HE.out.swapC hSn (d := dk) (i := first + root) (j := first + (2 * root + 1)) (x := (first : Int) + (root : Int)) (y := (first : Int) + (2 * (root : Int) + 1)) (by omega) (by omega) (by omega) (by omega); have HS4 := Lib.hid hSs; have HT4 := Lib.hid (HT3.out.trans hTs); clear hSn hTn hSs hTs HT3 HK)
     go_roundg (hi - (2 * root + 1))
     case measure => omega
     case rel => exact ⟨(2 * root + 1), swp dk (first + root) (first + (2 * root + 1)), by go_num, by omega, Nat.le_refl _, HS4, HT4, Lib.hid (by rw [← HO.out, HN.out])⟩
    | false =>
     have HN := Lib.hid (sd_left_stop lt (hi := hi) dk (by omega) (fun h => absurd h h1) hG)
     have HK := Lib.hid (HE.out.lessC HS.out (d := dk) (i := first + root) (j := first + (2 * root + 1)) (x := (first : Int) + (root : Int)) (y := (first : Int) + (2 * (root : Int) + 1)) (by omega) (by omega) (by omega) (by omega) hG)
     go_wp2_with (go_at_fn 70; (with_reducible refine HK.out.mono ?_); rintro e w3 ⟨rfl, hSn, hTn⟩; have HS4 := Lib.hid hSn; have HT4 := Lib.hid (HT.out.trans hTn); clear hSn hTn HK)
     (try simp only [Exit.inBlock, Exit.then]); refine bodyPost_ret (results_none rfl _ _ _) rfl ?_
     refine ⟨rfl, ?_, HT0.out.trans HT4.out⟩
     rw [← HO.out, HN.out]
     exact HS4.out
end Go.Proofs.YtpeneeddfgmjpaaGreatDoor.srt

namespace Go.Proofs.YtpeneeddfgmjpaaGreatDoor.srt
open Go.RowKit Go.Proofs.YtpeneeddfgmjpaaGreatDoor.mem Go.Proofs.YtpeneeddfgmjpaaGreatDoor.sha Go.Proofs.YtpeneeddfgmjpaaGreatDoor.ids Go.Sort
set_option maxHeartbeats 2000000 in
set_option maxRecDepth 100000 in
theorem heap_any {V H : Value} {blk off n : Nat} (E : Env V H blk off n) (d : Array I32) (w : World) (a b : Nat) (hs : St blk off n d w) (hab : a ≤ b) (hb : b ≤ n) (hn : n ≤ 1000000000) :
  Calls Tryz.prog 124 #[dat V H, .int .i64 a, .int .i64 b] w fun e w' => e = .returned (.tuple #[]) ∧ St blk off n (heapSort lt d a b) w' ∧ Tr blk w w' := by
 have HE := Lib.hid E
 have en := enters_less
 have HT0 := Lib.hid (Tr.boxed V H blk w)
 have HS0 := Lib.hid (hs.boxed (V := V) (H := H))
 have HB0 := Lib.hid (Bx.new (V := V) (H := H) hs)
 unfold datObj at HT0 HS0 HB0
 unfold dat
 have hz0 : ((b : Int) - (a : Int)) = ((b - a : Nat) : Int) := by omega
 have HF := Lib.hid (show heapPop lt a (b - a) (heapBuild lt (b - a) a ((b - a - 1) / 2 + 1) d) = heapSort lt d a b from rfl)
 obtain ⟨m, hm⟩ : ∃ m, m = b - a := ⟨_, rfl⟩
 rw [← hm] at hz0 HF
 have hq : Int.tdiv ((m : Int) - 1) 2 = (((m - 1) / 2 : Nat) : Int) := by
  rcases Nat.eq_zero_or_pos m with h | h
  ·
   subst h; rfl
  ·
   rw [show (m : Int) - 1 = ((m - 1 : Nat) : Int) by omega, Int.tdiv_eq_ediv_of_nonneg (by omega)]; norm_cast
 have hm1 : m ≤ n := by omega
 have HM := Lib.hid (show a + m = b by omega)
 clear hm
 clear E hs
 go_enter Tryz.func124, Tryz.ntmps124
 go_wp2_with fail
 generalize w.alloc _ = w1 at HT0 HS0 HB0 ⊢
 generalize w.heap.size = B at HB0 ⊢
 go_loopg [9] ((m - 1) / 2 + 1) (fun gk s9 wr => ∃ (k : Nat) (dk : Array I32) (z : Int), s9 = .int .i64 z ∧ z = (k : Int) - 1 ∧ k ≤ (m - 1) / 2 + 1 ∧ k ≤ gk ∧ Hid (St blk off n dk wr) ∧ Hid (Tr blk w1 wr) ∧ Hid (heapBuild lt m a k dk = heapBuild lt m a ((m - 1) / 2 + 1) d))
 case atStart => exact ⟨(m - 1) / 2 + 1, d, ((m - 1) / 2 : Nat), rfl, by omega, Nat.le_refl _, Nat.le_refl _, HS0.out, Lib.hid (Tr.refl _ _), Lib.hid rfl⟩
 case round =>
  obtain ⟨k, dk, z, rfl, hz, hkm, hgk, HS, HT, HO⟩ := hrel
  clear HS0
  have c0 := (HB0.out.turn HT.out).less
  have c1 := (HB0.out.turn HT.out).swap
  cases k with
  | zero =>
   obtain rfl : z = -1 := by omega
   clear c0 c1 hz
   go_wp2_with fail
   have HO2 : Hid (dk = heapBuild lt m a ((m - 1) / 2 + 1) d) := HO.out
   clear HO
   go_loopg [10] m (fun gk s10 wr => ∃ (k : Nat) (dj : Array I32) (z : Int), s10 = .int .i64 z ∧ z = (k : Int) - 1 ∧ k ≤ m ∧ k ≤ gk ∧ Hid (St blk off n dj wr) ∧ Hid (Tr blk w1 wr) ∧ Hid (heapPop lt a k dj = heapPop lt a m dk))
   case atStart => exact ⟨m, dk, _, rfl, rfl, Nat.le_refl _, Nat.le_refl _, HS.out, HT.out, Lib.hid rfl⟩
   case round =>
    obtain ⟨k, dj, z, rfl, hz, hkm2, hgk2, HS2, HT2, HP⟩ := hrel
    clear HS HT
    cases k with
    | zero =>
     obtain rfl : z = -1 := by omega
     clear hz
     go_wp2_with fail
     go_end0
     refine ⟨rfl, ?_, HT0.out.trans HT2.out⟩
     rw [← HF.out, ← HO2.out, ← HP.out]
     exact HS2.out
    | succ k =>
     obtain rfl : z = (k : Int) := by omega
     have hM := HM.out
     have c1 := (HB0.out.turn HT2.out).swap
     obtain ⟨w2, hsw, hSs, hTs⟩ := HE.out.swapC HS2.out (i := a) (j := a + k) (x := (a : Int)) (y := (a : Int) + (k : Int)) (by omega) (by omega) rfl (by omega)
     have HT3 := Lib.hid (HT2.out.trans hTs)
     have c2 := (HB0.out.turn HT3.out).less
     have c3 := (HB0.out.turn HT3.out).swap
     have hC := sift_any HE.out _ w2 0 k a hSs (Nat.zero_le _) (by omega) hn
     rw [show ((0 : Nat) : Int) = 0 from rfl] at hC
     have HC := Lib.hid hC
     unfold dat at HC
     clear hC
     clear hSs hTs hz hM HS2
     go_wp2_with (go_at_call 133; (with_reducible refine HC.out.mono ?_); rintro e w3 ⟨rfl, hSn, hTn⟩; have HS4 := Lib.hid hSn; have HT4 := Lib.hid (HT3.out.trans hTn); clear hSn hTn HC)
     go_roundg k
     case measure => omega
     case rel => exact ⟨k, _, _, rfl, rfl, by omega, Nat.le_refl _, HS4.out, HT4.out, HP.out⟩
  | succ k =>
   obtain rfl : z = (k : Int) := by omega
   have hM := HM.out
   have HC := Lib.hid (sift_any HE.out dk wr k m a HS.out (by omega) (by omega) hn)
   unfold dat at HC
   clear hz hM HS
   go_wp2_with (go_at_call 133; (with_reducible refine HC.out.mono ?_); rintro e w3 ⟨rfl, hSn, hTn⟩; have HS4 := Lib.hid hSn; have HT4 := Lib.hid (HT.out.trans hTn); clear hSn hTn HC)
   go_roundg k
   case measure => omega
   case rel => exact ⟨k, _, _, rfl, rfl, by omega, Nat.le_refl _, HS4.out, HT4.out, HO.out⟩
end Go.Proofs.YtpeneeddfgmjpaaGreatDoor.srt

namespace Go.Proofs.YtpeneeddfgmjpaaGreatDoor.srt
open Go.RowKit Go.Proofs.YtpeneeddfgmjpaaGreatDoor.mem Go.Proofs.YtpeneeddfgmjpaaGreatDoor.sha Go.Proofs.YtpeneeddfgmjpaaGreatDoor.ids Go.Sort
/-- the count of swaps: a variable that only these calls write -/
structure Cnt (blk S : Nat) (w : World) : Prop where
 at_ : ∃ z : Int, Blk w S 3 #[.int .i64 z]
 ne : S ≠ blk
def Tq (_blk S : Nat) (w w' : World) : Prop := Turn (fun k => k = S ∨ w.heap.size ≤ k) w w'
theorem Tq.trans {blk S : Nat} {w w' w'' : World} (h : Tq blk S w w') (k : Tq blk S w' w'') : Tq blk S w w'' := Turn.trans h (Turn.mono k fun _i hi => hi.imp id fun hi => Nat.le_trans h.size hi)
theorem Tq.ofNew {blk S : Nat} {w w' : World} (hb : RowKit.Below w.heap.size w w') : Tq blk S w w' := Turn.mono (Turn.ofBelow hb) fun _k hk => .inr hk
theorem Tq.st {blk S off n : Nat} {d : Array I32} {w w' : World} (h : Tq blk S w w') (hs : St blk off n d w) (hne : S ≠ blk) : St blk off n d w' :=
 have hk : ¬ (blk = S ∨ w.heap.size ≤ blk) := fun e => by have := hs.lt; rcases e with e | e; exact hne e.symm; omega
 ⟨hs.size, fun j hj => ⟨(World.cell?_of_block (h.block blk hk)).trans (hs.holds j hj).1, (World.frozen?_of_block (h.block blk hk)).trans (hs.holds j hj).2⟩, Nat.lt_of_lt_of_le hs.lt h.size⟩
theorem Tq.bx {V H : Value} {blk S B : Nat} {w w' : World} (h : Tq blk S w w') (hb : Bx V H blk B w) (hne : B ≠ S) : Bx V H blk B w' :=
 have hk : ¬ (B = S ∨ w.heap.size ≤ B) := fun e => by have := hb.lt; rcases e with e | e; exact hne e; omega
 ⟨(World.cell?_of_block (h.block B hk)).trans hb.less, (World.cell?_of_block (h.block B hk)).trans hb.swap, hb.ne, Nat.lt_of_lt_of_le hb.lt h.size⟩
theorem Cnt.below {blk S : Nat} {w w' : World} (h : Cnt blk S w) (hb : RowKit.Below w.heap.size w w') : Cnt blk S w' := by
 obtain ⟨⟨z, hz⟩, hne⟩ := h
 exact ⟨⟨z, hz.below hb hz.lt⟩, hne⟩
theorem Cnt.lt {blk S : Nat} {w : World} (h : Cnt blk S w) : S < w.heap.size := h.at_.elim fun _ hz => hz.lt
set_option maxHeartbeats 2000000 in
set_option maxRecDepth 100000 in
theorem order2_any {V H : Value} {blk off n : Nat} (E : Env V H blk off n) (d : Array I32) (w : World) (a b S : Nat) (hs : St blk off n d w) (ha : a < n) (hb : b < n) (hc : Cnt blk S w) :
  Calls Tryz.prog 139 #[dat V H, .int .i64 a, .int .i64 b, .pointer (some ⟨S, 0, none⟩)] w fun e w' => (e = .returned (.tuple #[.int .i64 a, .int .i64 b]) ∨ e = .returned (.tuple #[.int .i64 b, .int .i64 a])) ∧ Tq blk S w w' ∧ Cnt blk S w' := by
 have HC := Lib.hid (hc.below ((RowKit.Below.refl _ w).alloc (Nat.le_refl _) (datObj V H)))
 have HQ0 := Lib.hid (Tq.ofNew (blk := blk) (S := S) ((RowKit.Below.refl _ w).alloc (Nat.le_refl _) (datObj V H)))
 unfold datObj at HC HQ0
 have HBS := Lib.hid (show w.heap.size ≠ S from fun e => by have := hc.lt; omega)
 clear hc
 have HE := Lib.hid E
 have en := enters_less
 have HS0 := Lib.hid (hs.boxed (V := V) (H := H))
 have HB0 := Lib.hid (Bx.new (V := V) (H := H) hs)
 unfold datObj at HS0 HB0
 unfold dat
 clear E hs
 go_enter Tryz.func139, Tryz.ntmps139
 cases hl : lt d[b]! d[a]! with
 | true =>
  have HL := Lib.hid (HE.out.less d _ b a HS0.out hb ha)
  rw [hl] at HL
  clear hl
  go_wp2_with (go_at_fn 70; (with_reducible refine HL.out.mono ?_); rintro e w2 ⟨rfl, hBn⟩; obtain ⟨⟨z, hz⟩, hne⟩ := HC.out.below hBn; have c2 := hz.cell 0; have f2 := hz.frozen 0; have HZ := Lib.hid hz; have HN := Lib.hid hne; have HQ2 := Lib.hid (HQ0.out.trans (Tq.ofNew hBn)); clear hz hne hBn HL)
  go_ret2
  refine ⟨.inr rfl, ?_, ⟨⟨_, HZ.out.set_ 0 _⟩, HN.out⟩⟩
  exact Turn.setCell HQ2.out (.inl rfl) _
 | false =>
  have HL := Lib.hid (HE.out.less d _ b a HS0.out hb ha)
  rw [hl] at HL
  clear hl
  go_wp2_with (go_at_fn 70; (with_reducible refine HL.out.mono ?_); rintro e w2 ⟨rfl, hBn⟩; have HC2 := Lib.hid (HC.out.below hBn); have HQ2 := Lib.hid (HQ0.out.trans (Tq.ofNew hBn)); clear hBn HL)
  go_ret2
  exact ⟨.inl rfl, HQ2.out, HC2.out⟩
end Go.Proofs.YtpeneeddfgmjpaaGreatDoor.srt

namespace Go.Proofs.YtpeneeddfgmjpaaGreatDoor.srt
open Go.RowKit Go.Proofs.YtpeneeddfgmjpaaGreatDoor.mem Go.Proofs.YtpeneeddfgmjpaaGreatDoor.sha Go.Proofs.YtpeneeddfgmjpaaGreatDoor.ids Go.Sort
set_option maxHeartbeats 2000000 in
set_option maxRecDepth 100000 in
theorem order2_c {V H : Value} {blk off n : Nat} (E : Env V H blk off n) (d : Array I32) (w : World) (a b S : Nat) (hs : St blk off n d w) (ha : a < n) (hb : b < n) (hc : Cnt blk S w) :
  Calls Tryz.prog 139 #[dat V H, .int .i64 a, .int .i64 b, .pointer (some ⟨S, 0, none⟩)] w fun e w' => ∃ p q : Nat, e = .returned (.tuple #[.int .i64 p, .int .i64 q]) ∧ Hid (p = a ∧ q = b ∨ p = b ∧ q = a) ∧ Hid (Tq blk S w w') ∧ Hid (Cnt blk S w') :=
 (order2_any E d w a b S hs ha hb hc).mono fun _ _ ⟨he, hq, hc⟩ => he.elim (fun h => ⟨a, b, h, Lib.hid (.inl ⟨rfl, rfl⟩), Lib.hid hq, Lib.hid hc⟩) (fun h => ⟨b, a, h, Lib.hid (.inr ⟨rfl, rfl⟩), Lib.hid hq, Lib.hid hc⟩)

set_option maxHeartbeats 2000000 in
set_option maxRecDepth 100000 in
theorem median_any {V H : Value} {blk off n : Nat} (E : Env V H blk off n) (d : Array I32) (w : World) (a b c S : Nat) (hs : St blk off n d w) (ha : a < n) (hb : b < n) (hcn : c < n) (hc : Cnt blk S w) :
  Calls Tryz.prog 137 #[dat V H, .int .i64 a, .int .i64 b, .int .i64 c, .pointer (some ⟨S, 0, none⟩)] w fun e w' => ∃ m : Nat, e = .returned (.int .i64 m) ∧ Hid (m = a ∨ m = b ∨ m = c) ∧ Hid (Tq blk S w w') ∧ Hid (Cnt blk S w') := by
 have HE := Lib.hid E
 have HC0 := Lib.hid (hc.below ((RowKit.Below.refl _ w).alloc (Nat.le_refl _) (datObj V H)))
 have HQ0 := Lib.hid (Tq.ofNew (blk := blk) (S := S) ((RowKit.Below.refl _ w).alloc (Nat.le_refl _) (datObj V H)))
 have HBS := Lib.hid (show w.heap.size ≠ S from fun e => by have := hc.lt; omega)
 have HS0 := Lib.hid (hs.boxed (V := V) (H := H))
 have HB0 := Lib.hid (Bx.new (V := V) (H := H) hs)
 have HNE := Lib.hid hc.ne
 unfold datObj at HC0 HQ0 HS0 HB0
 unfold dat
 clear E hs hc
 go_enter Tryz.func137, Tryz.ntmps137
 have HL1 := Lib.hid (order2_c HE.out d _ a b S HS0.out (by omega) (by omega) HC0.out); unfold dat at HL1
 go_wp2_with (first
  | (go_at_call 139; (with_reducible refine HL3.out.mono ?_); rintro e w4 ⟨p3, q3, rfl, H3, HQn, HCn⟩; have HC3 := HCn; have HQ3 := Lib.hid (HQ2.out.trans HQn.out); clear HCn HQn HL3)
  | (go_at_call 139; (with_reducible refine HL2.out.mono ?_); rintro e w3 ⟨p2, q2, rfl, H2, HQn, HCn⟩; have HQ2 := Lib.hid (HQ1.out.trans HQn.out); have HB2 := Lib.hid (HQn.out.bx HB1.out HBS.out); have c20 := HB2.out.less; have c21 := HB2.out.swap; have HSt2 := Lib.hid (HQn.out.st HSt1.out HNE.out); have hb3 : p1 < n := (by have h1 := H1.out; omega); have hb4 : p2 < n := (by have h1 := H1.out; have h2 := H2.out; omega); have HL3 := Lib.hid (order2_c HE.out d _ p1 p2 S HSt2.out (by omega) (by omega) HCn.out); unfold dat at HL3; clear HCn HQn HL2)
  | (go_at_call 139; (with_reducible refine HL1.out.mono ?_); rintro e w2 ⟨p1, q1, rfl, H1, HQn, HCn⟩; have HQ1 := Lib.hid (HQ0.out.trans HQn.out); have HB1 := Lib.hid (HQn.out.bx HB0.out HBS.out); have c10 := HB1.out.less; have c11 := HB1.out.swap; have HSt1 := Lib.hid (HQn.out.st HS0.out HNE.out); have hb2 : q1 < n := (by have h1 := H1.out; omega); have HL2 := Lib.hid (order2_c HE.out d _ q1 c S HSt1.out (by omega) (by omega) HCn.out); unfold dat at HL2; clear HCn HQn HL1))
 go_ret
 refine ⟨q3, rfl, Lib.hid ?_, HQ3, HC3⟩
 have h1 := H1.out
 have h2 := H2.out
 have h3 := H3.out
 omega
set_option maxHeartbeats 2000000 in
set_option maxRecDepth 100000 in
theorem medadj_any {V H : Value} {blk off n : Nat} (E : Env V H blk off n) (d : Array I32) (w : World) (a S : Nat) (hs : St blk off n d w) (ha : 1 ≤ a) (hb : a + 1 < n) (hn : n ≤ 1000000000) (hc : Cnt blk S w) :
  Calls Tryz.prog 136 #[dat V H, .int .i64 a, .pointer (some ⟨S, 0, none⟩)] w fun e w' => ∃ m : Nat, e = .returned (.int .i64 m) ∧ Hid (a ≤ m + 1 ∧ m ≤ a + 1) ∧ Hid (Tq blk S w w') ∧ Hid (Cnt blk S w') := by
 have HE := Lib.hid E
 have HC0 := Lib.hid (hc.below ((RowKit.Below.refl _ w).alloc (Nat.le_refl _) (datObj V H)))
 have HQ0 := Lib.hid (Tq.ofNew (blk := blk) (S := S) ((RowKit.Below.refl _ w).alloc (Nat.le_refl _) (datObj V H)))
 have HBS := Lib.hid (show w.heap.size ≠ S from fun e => by have := hc.lt; omega)
 have HS0 := Lib.hid (hs.boxed (V := V) (H := H))
 have HB0 := Lib.hid (Bx.new (V := V) (H := H) hs)
 have HNE := Lib.hid hc.ne
 unfold datObj at HC0 HQ0 HS0 HB0
 unfold dat
 clear E hs hc
 go_enter Tryz.func136, Tryz.ntmps136
 have hL := median_any HE.out d _ (a - 1) a (a + 1) S HS0.out (by omega) (by omega) hb HC0.out
 rw [show ((a - 1 : Nat) : Int) = (a : Int) - 1 by omega, show ((a + 1 : Nat) : Int) = (a : Int) + 1 by omega] at hL
 have HL := Lib.hid hL
 unfold dat at HL
 clear hL
 go_wp2_with (go_at_call 137; (with_reducible refine HL.out.mono ?_); rintro e w2 ⟨m, rfl, HM, HQn, HCn⟩)
 go_ret
 exact ⟨m, rfl, Lib.hid (by have := HM.out; omega), Lib.hid (HQ0.out.trans HQn.out), HCn⟩
end Go.Proofs.YtpeneeddfgmjpaaGreatDoor.srt

namespace Go.Proofs.YtpeneeddfgmjpaaGreatDoor.srt
open Go.RowKit Go.Proofs.YtpeneeddfgmjpaaGreatDoor.mem Go.Proofs.YtpeneeddfgmjpaaGreatDoor.sha Go.Proofs.YtpeneeddfgmjpaaGreatDoor.ids Go.Sort
set_option maxHeartbeats 2000000 in
set_option maxRecDepth 100000 in
theorem pivot_any {V H : Value} {blk off n : Nat} (E : Env V H blk off n) (d : Array I32) (w : World) (a b : Nat) (hs : St blk off n d w) (hab : 12 < b - a) (hb : b ≤ n) (hn : n ≤ 1000000000) :
  Calls Tryz.prog 126 #[dat V H, .int .i64 a, .int .i64 b] w fun e w' => ∃ (m : Nat) (h : Int), e = .returned (.tuple #[.int .i64 m, .int .i64 h]) ∧ Hid (a ≤ m ∧ m < b) ∧ Hid (h = 0 ∨ h = 1 ∨ h = 2) ∧ Hid (RowKit.Below w.heap.size w w') := by
 obtain ⟨w1, hw1⟩ : ∃ u, u = (w.alloc (datObj V H)).alloc (.cells #[.int .i64 0] 3) := ⟨_, rfl⟩
 have hb1 : RowKit.Below w.heap.size w w1 := by rw [hw1]; exact ((RowKit.Below.refl _ w).alloc (Nat.le_refl _) _).alloc (by simp) _
 have HS1 := Lib.hid (hs.below hb1)
 have HB1 := Lib.hid (show Bx V H blk w.heap.size w1 by rw [hw1]; exact (Bx.new (V := V) (H := H) hs).turn (Tr.below ((RowKit.Below.refl _ _).alloc (Nat.le_refl _) _)))
 have HC1 := Lib.hid (show Cnt blk (w.heap.size + 1) w1 by
  rw [hw1]; exact ⟨⟨0, Blk.at_ (by simp) _ _⟩, fun e => by have := hs.lt; omega⟩)
 have HBS := Lib.hid (show w.heap.size ≠ w.heap.size + 1 by omega)
 have HB01 := Lib.hid hb1
 have hz0 : ((b : Int) - (a : Int)) = ((b - a : Nat) : Int) := by omega
 obtain ⟨l, hl⟩ : ∃ l, l = b - a := ⟨_, rfl⟩
 rw [← hl] at hz0 hab
 obtain ⟨q, hq⟩ : ∃ q, q = l / 4 := ⟨_, rfl⟩
 have hq4 : Int.tdiv (l : Int) 4 = (q : Int) := by rw [Int.tdiv_eq_ediv_of_nonneg (by omega), hq]; norm_cast
 have hq4e : (l : Int) / 4 = (q : Int) := by rw [hq]; norm_cast
 have hq1 : 4 * q ≤ l := by omega
 have hq2 : l < 4 * q + 4 := by omega
 have HL := Lib.hid (show a + l = b by omega)
 have HW1 := Lib.hid hw1
 unfold datObj at HW1
 unfold dat
 have hl8 : (8 : Int) ≤ (l : Int) := by omega
 have hln : l ≤ n := by omega
 have han : a ≤ n := by omega
 have HNE := Lib.hid HC1.out.ne
 clear hl hq hw1 hb1 hs
 have HE := Lib.hid E
 clear E
 go_enter Tryz.func126, Tryz.ntmps126
 go_upto_region 6 with fail
 refine wp_at HW1.out.symm ?_
 clear HW1
 generalize hBq : w.heap.size = B at HB1 HC1 HBS HNE ⊢
 have HBq := Lib.hid hBq
 clear hBq
 have cB0 := HB1.out.less
 have cB1 := HB1.out.swap
 have HQ1 := Lib.hid (show Tq blk (B + 1) w1 w1 from Turn.refl _ _)
 have BLOW : Hid (∀ w9 : World, Tq blk (B + 1) w1 w9 → RowKit.Below B w w9) := fun w9 hq => by
  have h1 := HB01.out
  rw [HBq.out] at h1
  exact h1.trans (Turn.below hq fun k hk => by
   have := h1.size
   have := HBq.out
   rcases hk with rfl | hk <;> omega)
 have hL := HL.out
 by_cases h50 : 50 ≤ l
 ·
  have hl50 : (50 : Int) ≤ (l : Int) := by omega
  have hEM1 := HE.out; have M1 := medadj_any hEM1 d _ (a + q) (B + 1) HS1.out (by omega) (by omega) hn HC1.out; rw [show ((a + q : Nat) : Int) = (a : Int) + (q : Int) by omega] at M1; have HM1 := Lib.hid M1; unfold dat at HM1; clear M1 hEM1
  clear hL
  go_upto_region 12 with (first
   | (go_at_call 137; (with_reducible refine HMD.out.mono ?_); rintro e w9 ⟨m9, rfl, H9, HQn, HCn⟩; have HC9 := HCn; have HQ9 := Lib.hid (HQ4.out.trans HQn.out); have HM9 := Lib.hid (show a ≤ m9 ∧ m9 < b by have h1 := H1.out; have h2 := H2.out; have h3 := H3.out; have h9 := H9.out; have hL := HL.out; omega); clear HCn HQn HMD)
   | (go_at_call 136; (with_reducible refine HM3.out.mono ?_); rintro e w4 ⟨m3, rfl, H3, HQn, HCn⟩; have HQ4 := Lib.hid (HQ3.out.trans HQn.out); have HB4 := Lib.hid (HQn.out.bx HB3.out HBS.out); have c40 := HB4.out.less; have c41 := HB4.out.swap; have HS4 := Lib.hid (HQn.out.st HS3.out HNE.out); have HC4 := HCn; clear HCn HQn HM3; have h1 := H1.out; have h2 := H2.out; have h3 := H3.out; have hL := HL.out; have hEMD := HE.out; have MD := median_any hEMD d w4 (m1) (m2) (m3) (B + 1) HS4.out (by omega) (by omega) (by omega) HC4.out; have HMD := Lib.hid MD; unfold dat at HMD; clear MD hEMD; clear h1 h2 h3 hL)
   | (go_at_call 136; (with_reducible refine HM2.out.mono ?_); rintro e w3 ⟨m2, rfl, H2, HQn, HCn⟩; have HQ3 := Lib.hid (HQ2.out.trans HQn.out); have HB3 := Lib.hid (HQn.out.bx HB2.out HBS.out); have c30 := HB3.out.less; have c31 := HB3.out.swap; have HS3 := Lib.hid (HQn.out.st HS2.out HNE.out); have HC3 := HCn; clear HCn HQn HM2; have hL := HL.out; have hEM3 := HE.out; have M3 := medadj_any hEM3 d w3 (a + q * 3) (B + 1) HS3.out (by omega) (by omega) hn HC3.out; rw [show ((a + q * 3 : Nat) : Int) = (a : Int) + (q : Int) * 3 by omega] at M3; have HM3 := Lib.hid M3; unfold dat at HM3; clear M3 hEM3; clear hL)
   | (go_at_call 136; (with_reducible refine HM1.out.mono ?_); rintro e w2 ⟨m1, rfl, H1, HQn, HCn⟩; have HQ2 := Lib.hid (HQ1.out.trans HQn.out); have HB2 := Lib.hid (HQn.out.bx HB1.out HBS.out); have c20 := HB2.out.less; have c21 := HB2.out.swap; have HS2 := Lib.hid (HQn.out.st HS1.out HNE.out); have HC2 := HCn; clear HCn HQn HM1; have hL := HL.out; have hEM2 := HE.out; have M2 := medadj_any hEM2 d w2 (a + q * 2) (B + 1) HS2.out (by omega) (by omega) hn HC2.out; rw [show ((a + q * 2 : Nat) : Int) = (a : Int) + (q : Int) * 2 by omega] at M2; have HM2 := Lib.hid M2; unfold dat at HM2; clear M2 hEM2; clear hL))
  obtain ⟨⟨z, hz⟩, hne⟩ := HC9.out
  have cz := hz.cell 0
  have HBl := Lib.hid (BLOW.out _ HQ9.out)
  clear hz hne
  by_cases h0 : z = 0
  ·
   subst h0
   go_wp2_with fail
   go_ret2
   exact ⟨_, _, rfl, HM9, Lib.hid (.inr (.inl rfl)), by rw [HBq.out]; exact HBl⟩
  ·
   by_cases h12 : z = 12
   ·
    subst h12
    go_wp2_with fail
    go_ret2
    exact ⟨_, _, rfl, HM9, Lib.hid (.inr (.inr rfl)), by rw [HBq.out]; exact HBl⟩
   ·
    have hb0 : (z == 0) = false := by simpa using h0
    have hb12 : (z == 12) = false := by simpa using h12
    go_wp2_with fail
    go_ret2
    exact ⟨_, _, rfl, HM9, Lib.hid (.inl rfl), by rw [HBq.out]; exact HBl⟩
 ·
  have hl50 : ¬ (50 : Int) ≤ (l : Int) := by omega
  have hEMD := HE.out; have MD := median_any hEMD d _ (a + q) (a + q * 2) (a + q * 3) (B + 1) HS1.out (by omega) (by omega) (by omega) HC1.out; rw [show ((a + q : Nat) : Int) = (a : Int) + (q : Int) by omega, show ((a + q * 2 : Nat) : Int) = (a : Int) + (q : Int) * 2 by omega, show ((a + q * 3 : Nat) : Int) = (a : Int) + (q : Int) * 3 by omega] at MD; have HMD := Lib.hid MD; unfold dat at HMD; clear MD hEMD
  clear hL
  go_upto_region 12 with (go_at_call 137; (with_reducible refine HMD.out.mono ?_); rintro e w9 ⟨m9, rfl, H9, HQn, HCn⟩; have HC9 := HCn; have HQ9 := Lib.hid (HQ1.out.trans HQn.out); have HM9 := Lib.hid (show a ≤ m9 ∧ m9 < b by have h9 := H9.out; have hL := HL.out; omega); clear HCn HQn HMD)
  obtain ⟨⟨z, hz⟩, hne⟩ := HC9.out
  have cz := hz.cell 0
  have HBl := Lib.hid (BLOW.out _ HQ9.out)
  clear hz hne
  by_cases h0 : z = 0
  ·
   subst h0
   go_wp2_with fail
   go_ret2
   exact ⟨_, _, rfl, HM9, Lib.hid (.inr (.inl rfl)), by rw [HBq.out]; exact HBl⟩
  ·
   by_cases h12 : z = 12
   ·
    subst h12
    go_wp2_with fail
    go_ret2
    exact ⟨_, _, rfl, HM9, Lib.hid (.inr (.inr rfl)), by rw [HBq.out]; exact HBl⟩
   ·
    have hb0 : (z == 0) = false := by simpa using h0
    have hb12 : (z == 12) = false := by simpa using h12
    go_wp2_with fail
    go_ret2
    exact ⟨_, _, rfl, HM9, Lib.hid (.inl rfl), by rw [HBq.out]; exact HBl⟩
end Go.Proofs.YtpeneeddfgmjpaaGreatDoor.srt
