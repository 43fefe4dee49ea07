/-
  Contracts of package octet's calls, the second part: numbers appended.
-/
import Derived.Test.YtbhkegdohiekfaaDoorOct
import Derived.Test.YtbhkegdohiekfaaDoorOctp
namespace Go.Proofs.YtbhkegdohiekfaaDoor.oct
open Go.RowKit Go.Proofs.YtbhkegdohiekfaaDoor.mem

theorem isSize_any (n : Int) (w : World) : Calls Tryd.prog 43 #[.int .i64 n] w fun e w' => e = .returned (.bool (sz n)) ∧ w = w' := by
  by_cases h1 : n = 1
  · subst h1
    go_enter Tryd.func43, Tryd.ntmps43
    go_wp2
    go_ret
    exact ⟨rfl, rfl⟩
  · by_cases h2 : n = 2
    · subst h2
      go_enter Tryd.func43, Tryd.ntmps43
      go_wp2
      go_ret
      exact ⟨rfl, rfl⟩
    · have h1' : (n == 1) = false := by simpa using h1
      have h2' : (n == 2) = false := by simpa using h2
      have hz : sz n = (n == 4) := by unfold sz; rw [h1', h2']; rfl
      have HZ := Lib.hid hz
      clear hz
      go_enter Tryd.func43, Tryd.ntmps43
      go_wp2
      go_ret
      rw [HZ.out]
      exact ⟨rfl, rfl⟩

theorem app1 (F : Nat → Prop) (v : Value) (m : Nat) (xs : List Value) (n : Int) (w : World) (hown : Owns w F v m xs) (hn : New F w) (hm : m + 1 ≤ 140737488355328) :
    Calls Tryd.prog 44 #[v, .int .i64 n, .int .i64 1] w fun e w' => ∃ v', e = .returned v' ∧ Owns w' F v' (m + 1) (xs ++ [.int .u8 (n % 256)]) ∧ Turn F w w' := by
  go_enter Tryd.func44, Tryd.ntmps44
  go_wp2_with (at_builtin; go_must (refine wp_append_new rfl (.tmp 29) (.tmp 32) rfl F _ v m xs rfl hown [_] 1 rfl rfl (one1 _) (by omega) hn ?_); intro v1 w1 ho1 ht1)
  go_ret
  exact ⟨v1, rfl, ho1, ht1⟩

theorem app2 (F : Nat → Prop) (v : Value) (m : Nat) (xs : List Value) (n : Int) (w : World) (hown : Owns w F v m xs) (hn : New F w) (hm : m + 2 ≤ 140737488355328) (h0 : 0 ≤ n) (h1 : n < 65536) :
    Calls Tryd.prog 44 #[v, .int .i64 n, .int .i64 2] w fun e w' => ∃ v', e = .returned v' ∧ Owns w' F v' (m + 1 + 1) (xs ++ [.int .u8 (n / 256)] ++ [.int .u8 (n % 256)]) ∧ Turn F w w' := by
  go_enter Tryd.func44, Tryd.ntmps44
  go_wp2_with (first
    | (at_builtin; refine wp_append_new rfl (.tmp 23) (.tmp 27) rfl F _ v m xs rfl hown [_] 1 rfl rfl (one1 _) (by omega) hn ?_; intro v1 w1 ho1 ht1)
    | (at_builtin; go_must (refine wp_append_new rfl (.tmp 29) (.tmp 32) rfl F _ v1 (m + 1) _ rfl ho1 [_] 1 rfl rfl (one1 _) (by omega) (hn.turn ht1) ?_); intro v2 w2 ho2 ht2))
  go_ret
  exact ⟨v2, rfl, ho2, ht1.trans ht2⟩

theorem app4 (F : Nat → Prop) (v : Value) (m : Nat) (xs : List Value) (n : Int) (w : World) (hown : Owns w F v m xs) (hn : New F w) (hm : m + 4 ≤ 140737488355328) (h0 : 0 ≤ n) (h1 : n < 4294967296) :
    Calls Tryd.prog 44 #[v, .int .i64 n, .int .i64 4] w fun e w' => ∃ v', e = .returned v' ∧ Owns w' F v' (m + 2 + 1 + 1) (xs ++ [.int .u8 (n / 16777216), .int .u8 (n / 65536 % 256)] ++ [.int .u8 (n / 256 % 256)] ++ [.int .u8 (n % 256)]) ∧ Turn F w w' := by
  go_enter Tryd.func44, Tryd.ntmps44
  go_wp2_with (first
    | (at_builtin; refine wp_append_new rfl (.tmp 14) (.tmp 21) rfl F _ v m xs rfl hown [_, _] 2 rfl rfl (one2 _ _) (by omega) hn ?_; intro v1 w1 ho1 ht1)
    | (at_builtin; refine wp_append_new rfl (.tmp 23) (.tmp 27) rfl F _ v1 (m + 2) _ rfl ho1 [_] 1 rfl rfl (one1 _) (by omega) (hn.turn ht1) ?_; intro v2 w2 ho2 ht2)
    | (at_builtin; go_must (refine wp_append_new rfl (.tmp 29) (.tmp 32) rfl F _ v2 (m + 2 + 1) _ rfl ho2 [_] 1 rfl rfl (one1 _) (by omega) (hn.turn (ht1.trans ht2)) ?_); intro v3 w3 ho3 ht3))
  go_ret
  exact ⟨v3, rfl, ho3, (ht1.trans ht2).trans ht3⟩
end Go.Proofs.YtbhkegdohiekfaaDoor.oct
