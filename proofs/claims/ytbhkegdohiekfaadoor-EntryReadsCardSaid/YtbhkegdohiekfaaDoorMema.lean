/-
  Bytes appended to a slice of the call's own; a string out of it.
-/
import Derived.Test.YtbhkegdohiekfaaDoorStepl
import Derived.Laws.IdiomStrings
import Derived.Laws.MakeOwn
namespace Go.Proofs.YtbhkegdohiekfaaDoor.mem
open Go.RowKit

/-- 'append(v, x..)': the new bytes lie in the block that the statement has just laid -/
theorem wp_append_new {ops : Array Oper} {rest : List Oper} {o : Oper} {a : Act} {Q : Exit → Act → World → Prop} (hgd : o.guard = none) (s x : Operand)
    (ho : o.op = .call { callee := .builtin .append, args := #[s, x], argTypes := #[49, 49] })
    (F : Nat → Prop) (w0 : World) (v : Value) (n : Nat) (xs : List Value) (hs : a.eval s = v) (hown : Owns w0 F v n xs) (news : List Value) (k : Nat)
    (hx : a.eval x = .slice (some ⟨w0.heap.size, 0, none⟩) k k) (hl : news.length = k * 1) (h1 : ∀ u ∈ news, u.oneCell' = true) (hlen : n + k ≤ 140737488355328) (hn : New F w0)
    (h : ∀ v' w', Owns w' F v' (n + k) (xs ++ news) → Turn F w0 w' → wpList Tryd.prog ops Q rest (a.put o.dst v') w') : wpList Tryd.prog ops Q (o :: rest) a (w0.alloc (.cells news.toArray 5)) := by
  obtain ⟨i0, hi, hz0, hz1, hz2⟩ := info_parts info5
  refine wpList_append_own_at (w0.alloc (.cells news.toArray 5)) hgd s x 49 ho 0 5 i0 (.int .u8 0) 1 1 Tryd.underlying49 hi hz0 hz1 hz2 rfl (by decide) v n xs hs (hown.1.alloc _) ⟨w0.heap.size, 0, none⟩ k k news hx hl
    (new_cells w0 5 news) h1 (by unfold maxLen; omega) (by omega) (Nat.zero_le _) ?_
  intro v' w' ho' hg _ hat
  refine h v' w' ⟨ho', fun b hb => ?_⟩ (((Turn.refl F w0).alloc hn _).trans (Turn.grown hg hown.2 (hn.alloc _)))
  rcases hat with e | e <;> rw [e] at hb
  · exact hown.2 b hb
  · injection hb with hb
    subst hb
    exact hn _ (by simp)

theorem string_at {w w' : World} {i : TypeInfo} (hi : Tryd.prog.info? 5 = some i) (hz : i.zero = some (.int .u8 0)) (hsize : i.size = 1) (hby : i.bytes = 1) {ty : TypeId}
    {v v' : Value} {n : Nat} {xs : List Value} (hown : w.ownsRow 0 5 1 v n xs) {s : ByteArray} (hbytes : n + s.size ≤ 140737488355328)
    (hr : (Builtin.append_ #[49, 9] ty #[v, .string s]).run Tryd.prog w = .ok v' w') (h4 : v' = .slice none 0 0 ↔ v = .slice none 0 0 ∧ s.size = 0) :
    v'.ownBlock = v.ownBlock ∨ v'.ownBlock = some w.heap.size := by
  have hxl : xs.length = n := by simpa using hown.1
  rcases hown.2 with ⟨rfl, rfl⟩ | ⟨g, cap, cur, rfl, hbg, hg, hnc, hcm, hcs, htake⟩
  · by_cases hm : s.size = 0
    · rw [h4.2 ⟨rfl, hm⟩]; exact .inl rfl
    · have h2 := run_append_nil_string (P := Tryd.prog) w 49 9 ty 5 i (.int .u8 0) Tryd.underlying49 Tryd.underlying9 hi hz s (by omega) (by omega) (by rw [hby]; omega)
      rw [h2] at hr
      injection hr with hr _
      subst hr
      exact .inr rfl
  · by_cases hroom : n + s.size ≤ cap
    · have hcs' : cur.size = cap := by simpa using hcs
      have h2 := Lib.run_append_room_string (P := Tryd.prog) w 49 9 ty 5 i Tryd.underlying49 Tryd.underlying9 hi hsize g n cap cur hg s hroom (by omega)
      rw [h2] at hr
      injection hr with hr _
      subst hr
      exact .inl rfl
    · have holds : ∀ j u, xs[j]? = some u → w.cell? ((⟨g, 0, none⟩ : Addr).add j) = some u := hown.cells (g := g) rfl
      have h2 := Lib.run_append_grow_string (P := Tryd.prog) w 49 9 ty 5 i (.int .u8 0) Tryd.underlying49 Tryd.underlying9 hi hz ⟨g, 0, none⟩ n cap xs (by rw [hsize]; simpa using hxl) holds s (by omega) (by omega) (by rw [hby]; exact growslice_fits (by omega) (by omega))
      rw [h2] at hr
      injection hr with hr _
      subst hr
      exact .inr rfl

/-- 'append(v, s...)', s a string -/
theorem wp_append_str {ops : Array Oper} {rest : List Oper} {o : Oper} {a : Act} {Q : Exit → Act → World → Prop} (hgd : o.guard = none) (sl x : Operand)
    (ho : o.op = .call { callee := .builtin .append, args := #[sl, x], argTypes := #[49, 9] })
    (F : Nat → Prop) (w0 : World) (v : Value) (n : Nat) (xs : List Value) (hs : a.eval sl = v) (hown : Owns w0 F v n xs) (s : ByteArray) (hx : a.eval x = .string s) (hlen : n + s.size ≤ 140737488355328) (hn : New F w0)
    (h : ∀ v' w', Owns w' F v' (n + s.size) (xs ++ Lib.strCells s) → Turn F w0 w' → wpList Tryd.prog ops Q rest (a.put o.dst v') w') : wpList Tryd.prog ops Q (o :: rest) a w0 := by
  obtain ⟨i, hi, hz, hsize, hby⟩ := info_parts info5
  refine wpList_plain hgd fun K hK => ?_
  obtain ⟨v', w', hr, h2, h3, h4⟩ := Lib.run_append_own_string (P := Tryd.prog) w0 0 49 9 o.type 5 i Tryd.underlying49 Tryd.underlying9 hi hz hsize hby v n xs hown.1 s (by unfold maxLen; omega) hlen (Nat.zero_le _)
  have hat := string_at hi hz hsize hby hown.1 hlen hr h4
  unfold Oper.wp execOp
  simp only [ho, resolve, invoke, builtin, Sem.run_bind, Sem.run_pure, Result.andThen_ok, List.map_toArray, List.map_cons, List.map_nil, hs, hx, hr]
  refine hK _ _ (h v' w' ⟨h2, fun b hb => ?_⟩ (Turn.grown h3 hown.2 hn))
  rcases hat with e | e <;> rw [e] at hb
  · exact hown.2 b hb
  · injection hb with hb
    subst hb
    exact hn _ (Nat.le_refl _)

def bCells (l : List UInt8) : List Value := l.map fun b => Value.int .u8 b.toNat
theorem bCells_append (a b : List UInt8) : bCells (a ++ b) = bCells a ++ bCells b := List.map_append
theorem strCells_eq (s : ByteArray) : Lib.strCells s = bCells s.data.toList := rfl

theorem Owns.string {w : World} {F : Nat → Prop} {v : Value} {out : List UInt8} (h : Owns w F v out.length (bCells out)) :
    (convert 49 9 v).run Tryd.prog w = .ok (.string ⟨out.toArray⟩) w := by
  rcases h.1.2 with ⟨rfl, h0⟩ | ⟨g', cap, cur, rfl, _, hh, _⟩
  · have e : out = [] := List.eq_nil_of_length_eq_zero h0
    subst e
    exact run_convert_bytes_nil w 49 5 Tryd.underlying49 Tryd.underlying5 0 0 9 Tryd.underlying9
  · refine run_convert_bytes_back w 49 9 5 ⟨g', 0, none⟩ cap out Tryd.underlying49 Tryd.underlying5 Tryd.underlying9 fun j hj => ?_
    exact h.1.cells (g := g') rfl j _ (by simp [bCells, List.getElem?_eq_getElem hj])

end Go.Proofs.YtbhkegdohiekfaaDoor.mem
