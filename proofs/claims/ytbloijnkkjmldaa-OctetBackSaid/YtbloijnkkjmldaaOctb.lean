/-
  Contracts of package octet's calls, the second part: numbers appended.
-/
import Derived.Test.YtbloijnkkjmldaaOct
namespace Go.Proofs.Ytbloijnkkjmldaa.oct
open Go.RowKit

theorem info5 : (Try.prog.info? 5).map (fun i => (i.zero, i.size, i.bytes)) = some (some (.int .u8 0), 1, 1) := by kernel_rfl

/-- is there a number of so many bytes? -/
def sz (n : Int) : Bool := n == 1 || (n == 2 || n == 4)

theorem isSize_any (n : Int) (w : World) : Calls Try.prog 29 #[.int .i64 n] w fun e w' => e = .returned (.bool (sz n)) ∧ w = w' := by
  by_cases h1 : n = 1
  · subst h1
    go_enter Try.func29, Try.ntmps29
    go_wp2
    go_ret
    exact ⟨rfl, rfl⟩
  · by_cases h2 : n = 2
    · subst h2
      go_enter Try.func29, Try.ntmps29
      go_wp2
      go_ret
      exact ⟨rfl, rfl⟩
    · have h1' : (n == 1) = false := by simpa using h1
      have h2' : (n == 2) = false := by simpa using h2
      have hz : sz n = (n == 4) := by unfold sz; rw [h1', h2']; rfl
      have HZ := Lib.hid hz
      clear hz
      go_enter Try.func29, Try.ntmps29
      go_wp2
      go_ret
      rw [HZ.out]
      exact ⟨rfl, rfl⟩

theorem new_cells (w : World) (t : TypeId) (cs : List Value) : ∀ (j : Nat) (u : Value), cs[j]? = some u → (w.alloc (.cells cs.toArray t)).cell? ((⟨w.heap.size, 0, none⟩ : Addr).add j) = some u := by
  intro j u h
  rw [Addr.add_lit, Nat.zero_add, (Blk.new w t cs.toArray).cell j]
  simpa using h
theorem one1 (a : Int) : ∀ u ∈ [Value.int .u8 a], u.oneCell' = true := by
  intro u hu; simp only [List.mem_cons, List.not_mem_nil, or_false] at hu; subst hu; rfl
theorem one2 (a b : Int) : ∀ u ∈ [Value.int .u8 a, .int .u8 b], u.oneCell' = true := by
  intro u hu; simp only [List.mem_cons, List.not_mem_nil, or_false] at hu; rcases hu with rfl | rfl <;> rfl


/-- 'append(v, x..)': the new bytes lie in the block that the statement has just laid -/
theorem wp_append_new {ops : Array Oper} {rest : List Oper} {o : Oper} {a : Act} {Q : Exit → Act → World → Prop} (hgd : o.guard = none) (s x : Operand)
    (ho : o.op = .call { callee := .builtin .append, args := #[s, x], argTypes := #[49, 49] })
    (F : Nat → Prop) (w0 : World) (v : Value) (n : Nat) (xs : List Value) (hs : a.eval s = v) (hown : Owns w0 F v n xs) (news : List Value) (k : Nat)
    (hx : a.eval x = .slice (some ⟨w0.heap.size, 0, none⟩) k k) (hl : news.length = k * 1) (h1 : ∀ u ∈ news, u.oneCell' = true) (hlen : n + k ≤ 140737488355328) (hn : New F w0)
    (h : ∀ v' w', Owns w' F v' (n + k) (xs ++ news) → Turn F w0 w' → wpList Try.prog ops Q rest (a.put o.dst v') w') : wpList Try.prog ops Q (o :: rest) a (w0.alloc (.cells news.toArray 5)) := by
  obtain ⟨i0, hi, hz0, hz1, hz2⟩ := info_parts info5
  refine wpList_append_own_at (w0.alloc (.cells news.toArray 5)) hgd s x 49 ho 0 5 i0 (.int .u8 0) 1 1 Try.underlying49 hi hz0 hz1 hz2 rfl (by decide) v n xs hs (hown.1.alloc _) ⟨w0.heap.size, 0, none⟩ k k news hx hl
    (new_cells w0 5 news) h1 (by unfold maxLen; omega) (by omega) (Nat.zero_le _) ?_
  intro v' w' ho' hg _ hat
  refine h v' w' ⟨ho', fun b hb => ?_⟩ (((Turn.refl F w0).alloc hn _).trans (Turn.grown hg hown.2 (hn.alloc _)))
  rcases hat with e | e <;> rw [e] at hb
  · exact hown.2 b hb
  · injection hb with hb
    subst hb
    exact hn _ (by simp)

theorem string_at {w w' : World} {i : TypeInfo} (hi : Try.prog.info? 5 = some i) (hz : i.zero = some (.int .u8 0)) (hsize : i.size = 1) (hby : i.bytes = 1) {ty : TypeId}
    {v v' : Value} {n : Nat} {xs : List Value} (hown : w.ownsRow 0 5 1 v n xs) {s : ByteArray} (hbytes : n + s.size ≤ 140737488355328)
    (hr : (Builtin.append_ #[49, 9] ty #[v, .string s]).run Try.prog w = .ok v' w') (h4 : v' = .slice none 0 0 ↔ v = .slice none 0 0 ∧ s.size = 0) :
    v'.ownBlock = v.ownBlock ∨ v'.ownBlock = some w.heap.size := by
  have hxl : xs.length = n := by simpa using hown.1
  rcases hown.2 with ⟨rfl, rfl⟩ | ⟨g, cap, cur, rfl, hbg, hg, hnc, hcm, hcs, htake⟩
  · by_cases hm : s.size = 0
    · rw [h4.2 ⟨rfl, hm⟩]; exact .inl rfl
    · have h2 := run_append_nil_string (P := Try.prog) w 49 9 ty 5 i (.int .u8 0) Try.underlying49 Try.underlying9 hi hz s (by omega) (by omega) (by rw [hby]; omega)
      rw [h2] at hr
      injection hr with hr _
      subst hr
      exact .inr rfl
  · by_cases hroom : n + s.size ≤ cap
    · have hcs' : cur.size = cap := by simpa using hcs
      have h2 := Lib.run_append_room_string (P := Try.prog) w 49 9 ty 5 i Try.underlying49 Try.underlying9 hi hsize g n cap cur hg s hroom (by omega)
      rw [h2] at hr
      injection hr with hr _
      subst hr
      exact .inl rfl
    · have holds : ∀ j u, xs[j]? = some u → w.cell? ((⟨g, 0, none⟩ : Addr).add j) = some u := hown.cells (g := g) rfl
      have h2 := Lib.run_append_grow_string (P := Try.prog) w 49 9 ty 5 i (.int .u8 0) Try.underlying49 Try.underlying9 hi hz ⟨g, 0, none⟩ n cap xs (by rw [hsize]; simpa using hxl) holds s (by omega) (by omega) (by rw [hby]; exact growslice_fits (by omega) (by omega))
      rw [h2] at hr
      injection hr with hr _
      subst hr
      exact .inr rfl

/-- 'append(v, s...)', s a string -/
theorem wp_append_str {ops : Array Oper} {rest : List Oper} {o : Oper} {a : Act} {Q : Exit → Act → World → Prop} (hgd : o.guard = none) (sl x : Operand)
    (ho : o.op = .call { callee := .builtin .append, args := #[sl, x], argTypes := #[49, 9] })
    (F : Nat → Prop) (w0 : World) (v : Value) (n : Nat) (xs : List Value) (hs : a.eval sl = v) (hown : Owns w0 F v n xs) (s : ByteArray) (hx : a.eval x = .string s) (hlen : n + s.size ≤ 140737488355328) (hn : New F w0)
    (h : ∀ v' w', Owns w' F v' (n + s.size) (xs ++ Lib.strCells s) → Turn F w0 w' → wpList Try.prog ops Q rest (a.put o.dst v') w') : wpList Try.prog ops Q (o :: rest) a w0 := by
  obtain ⟨i, hi, hz, hsize, hby⟩ := info_parts info5
  refine wpList_plain hgd fun K hK => ?_
  obtain ⟨v', w', hr, h2, h3, h4⟩ := Lib.run_append_own_string (P := Try.prog) w0 0 49 9 o.type 5 i Try.underlying49 Try.underlying9 hi hz hsize hby v n xs hown.1 s (by unfold maxLen; omega) hlen (Nat.zero_le _)
  have hat := string_at hi hz hsize hby hown.1 hlen hr h4
  unfold Oper.wp execOp
  simp only [ho, resolve, invoke, builtin, Sem.run_bind, Sem.run_pure, Result.andThen_ok, List.map_toArray, List.map_cons, List.map_nil, hs, hx, hr]
  refine hK _ _ (h v' w' ⟨h2, fun b hb => ?_⟩ (Turn.grown h3 hown.2 hn))
  rcases hat with e | e <;> rw [e] at hb
  · exact hown.2 b hb
  · injection hb with hb
    subst hb
    exact hn _ (Nat.le_refl _)

theorem app1 (F : Nat → Prop) (v : Value) (m : Nat) (xs : List Value) (n : Int) (w : World) (hown : Owns w F v m xs) (hn : New F w) (hm : m + 1 ≤ 140737488355328) :
    Calls Try.prog 30 #[v, .int .i64 n, .int .i64 1] w fun e w' => ∃ v', e = .returned v' ∧ Owns w' F v' (m + 1) (xs ++ [.int .u8 (n % 256)]) ∧ Turn F w w' := by
  go_enter Try.func30, Try.ntmps30
  go_wp2_with (at_builtin; go_must (refine wp_append_new rfl (.tmp 29) (.tmp 32) rfl F _ v m xs rfl hown [_] 1 rfl rfl (one1 _) (by omega) hn ?_); intro v1 w1 ho1 ht1)
  go_ret
  exact ⟨v1, rfl, ho1, ht1⟩

theorem app2 (F : Nat → Prop) (v : Value) (m : Nat) (xs : List Value) (n : Int) (w : World) (hown : Owns w F v m xs) (hn : New F w) (hm : m + 2 ≤ 140737488355328) (h0 : 0 ≤ n) (h1 : n < 65536) :
    Calls Try.prog 30 #[v, .int .i64 n, .int .i64 2] w fun e w' => ∃ v', e = .returned v' ∧ Owns w' F v' (m + 1 + 1) (xs ++ [.int .u8 (n / 256)] ++ [.int .u8 (n % 256)]) ∧ Turn F w w' := by
  go_enter Try.func30, Try.ntmps30
  go_wp2_with (first
    | (at_builtin; refine wp_append_new rfl (.tmp 23) (.tmp 27) rfl F _ v m xs rfl hown [_] 1 rfl rfl (one1 _) (by omega) hn ?_; intro v1 w1 ho1 ht1)
    | (at_builtin; go_must (refine wp_append_new rfl (.tmp 29) (.tmp 32) rfl F _ v1 (m + 1) _ rfl ho1 [_] 1 rfl rfl (one1 _) (by omega) (hn.turn ht1) ?_); intro v2 w2 ho2 ht2))
  go_ret
  exact ⟨v2, rfl, ho2, ht1.trans ht2⟩

theorem app4 (F : Nat → Prop) (v : Value) (m : Nat) (xs : List Value) (n : Int) (w : World) (hown : Owns w F v m xs) (hn : New F w) (hm : m + 4 ≤ 140737488355328) (h0 : 0 ≤ n) (h1 : n < 4294967296) :
    Calls Try.prog 30 #[v, .int .i64 n, .int .i64 4] w fun e w' => ∃ v', e = .returned v' ∧ Owns w' F v' (m + 2 + 1 + 1) (xs ++ [.int .u8 (n / 16777216), .int .u8 (n / 65536 % 256)] ++ [.int .u8 (n / 256 % 256)] ++ [.int .u8 (n % 256)]) ∧ Turn F w w' := by
  go_enter Try.func30, Try.ntmps30
  go_wp2_with (first
    | (at_builtin; refine wp_append_new rfl (.tmp 14) (.tmp 21) rfl F _ v m xs rfl hown [_, _] 2 rfl rfl (one2 _ _) (by omega) hn ?_; intro v1 w1 ho1 ht1)
    | (at_builtin; refine wp_append_new rfl (.tmp 23) (.tmp 27) rfl F _ v1 (m + 2) _ rfl ho1 [_] 1 rfl rfl (one1 _) (by omega) (hn.turn ht1) ?_; intro v2 w2 ho2 ht2)
    | (at_builtin; go_must (refine wp_append_new rfl (.tmp 29) (.tmp 32) rfl F _ v2 (m + 2 + 1) _ rfl ho2 [_] 1 rfl rfl (one1 _) (by omega) (hn.turn (ht1.trans ht2)) ?_); intro v3 w3 ho3 ht3))
  go_ret
  exact ⟨v3, rfl, ho3, (ht1.trans ht2).trans ht3⟩
end Go.Proofs.Ytbloijnkkjmldaa.oct
