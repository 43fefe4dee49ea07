/-
  octet's Writer: numbers and raw bytes behind what was written.
-/
import Derived.Test.YtdnkbgiellhfnaaDoorOctx
import Derived.Test.YtdnkbgiellhfnaaDoorOpp
namespace Go.Proofs.YtdnkbgiellhfnaaDoor.opn
open Go.RowKit Go.Proofs.YtdnkbgiellhfnaaDoor.mem

theorem lcalls_at {P : Program} {f : FuncId} {args : Array Value} {w w' : World} {Q : Ending → World → Prop} (h : w = w') (k : Calls P f args w' Q) : Calls P f args w Q := h ▸ k
theorem be_b1 (n : Int) : oct.be n 1 = b1 n := rfl
theorem be_b4 (n : Int) : oct.be n 4 = b4 n := rfl
theorem wNum1 (out : List UInt8) (n : Int) (h0 : 0 ≤ n) (h1 : n < 256) : oct.wNum (out, 0) n 1 = (out ++ b1 n, 0) := by
  have e : oct.numErr n 1 = 0 := by
    unfold oct.numErr
    rw [if_neg (by decide), if_neg (by rw [if_pos rfl]; omega)]
  unfold oct.wNum
  rw [if_neg (fun h => h rfl), if_neg (fun h => h e), be_b1]
theorem wNum4 (out : List UInt8) (n : Int) (h0 : 0 ≤ n) (h1 : n < 4294967296) : oct.wNum (out, 0) n 4 = (out ++ b4 n, 0) := by
  have e : oct.numErr n 4 = 0 := by
    unfold oct.numErr
    rw [if_neg (by decide), if_neg (by rw [if_neg (by decide), if_neg (by decide)]; omega)]
  unfold oct.wNum
  rw [if_neg (fun h => h rfl), if_neg (fun h => h e), be_b4]
theorem wnum1_s (F : Nat → Prop) (g : Nat) (out : List UInt8) (n : Int) (h0 : 0 ≤ n) (h1 : n < 256) (w : World) (h : oct.WrIs w F g out 0) (hn : New F w) (hl : out.length ≤ 100000) :
    Calls Tryd.prog 20 #[.pointer (some ⟨g, 0, none⟩), .int .i64 n, .int .i64 1] w fun e w' => e = .returned (.pointer (some ⟨g, 0, none⟩)) ∧ oct.WrIs w' F g (out ++ b1 n) 0 ∧ Turn F w w' := by
  have := oct.num_any F g out 0 n 1 w h hn (by omega) (by omega)
  rw [wNum1 out n h0 h1] at this
  exact this
theorem wnum4_s (F : Nat → Prop) (g : Nat) (out : List UInt8) (n : Int) (h0 : 0 ≤ n) (h1 : n < 4294967296) (w : World) (h : oct.WrIs w F g out 0) (hn : New F w) (hl : out.length ≤ 100000) :
    Calls Tryd.prog 20 #[.pointer (some ⟨g, 0, none⟩), .int .i64 n, .int .i64 4] w fun e w' => e = .returned (.pointer (some ⟨g, 0, none⟩)) ∧ oct.WrIs w' F g (out ++ b4 n) 0 ∧ Turn F w w' := by
  have := oct.num_any F g out 0 n 4 w h hn (by omega) (by omega)
  rw [wNum4 out n h0 h1] at this
  exact this
theorem wraw_s (F : Nat → Prop) (g : Nat) (out : List UInt8) (s : ByteArray) (w : World) (h : oct.WrIs w F g out 0) (hn : New F w) (hl : out.length ≤ 100000) (hs : s.size ≤ 100000) :
    Calls Tryd.prog 21 #[.pointer (some ⟨g, 0, none⟩), .string s] w fun e w' => e = .returned (.pointer (some ⟨g, 0, none⟩)) ∧ oct.WrIs w' F g (out ++ s.data.toList) 0 ∧ Turn F w w' := by
  have := oct.raw_any F g out 0 s w h hn (fun _ => by omega)
  rw [show oct.wRaw (out, 0) s = (out ++ s.data.toList, 0) by unfold oct.wRaw; rw [if_neg (fun h => h rfl)]] at this
  exact this
theorem be_b2 (n : Int) : oct.be n 2 = b2 n := rfl
theorem wNum2 (out : List UInt8) (n : Int) (h0 : 0 ≤ n) (h1 : n < 65536) : oct.wNum (out, 0) n 2 = (out ++ b2 n, 0) := by
  have e : oct.numErr n 2 = 0 := by
    unfold oct.numErr
    rw [if_neg (by decide), if_neg (by rw [if_neg (by decide), if_pos rfl]; omega)]
  unfold oct.wNum
  rw [if_neg (fun h => h rfl), if_neg (fun h => h e), be_b2]
theorem wnum2_s (F : Nat → Prop) (g : Nat) (out : List UInt8) (n : Int) (h0 : 0 ≤ n) (h1 : n < 65536) (w : World) (h : oct.WrIs w F g out 0) (hn : New F w) (hl : out.length ≤ 100000) :
    Calls Tryd.prog 20 #[.pointer (some ⟨g, 0, none⟩), .int .i64 n, .int .i64 2] w fun e w' => e = .returned (.pointer (some ⟨g, 0, none⟩)) ∧ oct.WrIs w' F g (out ++ b2 n) 0 ∧ Turn F w w' := by
  have := oct.num_any F g out 0 n 2 w h hn (by omega) (by omega)
  rw [wNum2 out n h0 h1] at this
  exact this
theorem WrIs.sub {w : World} {F G : Nat → Prop} {g : Nat} {out : List UInt8} {err : Int} (h : oct.WrIs w F g out err) (hG : ∀ b, b < w.heap.size → F b → G b) : oct.WrIs w G g out err := by
  obtain ⟨v, hb, ho, hg⟩ := h
  exact ⟨v, hb, ⟨ho.1, fun k hk => hG k (ho.lt hk) (ho.2 k hk)⟩, hG g (Blk.lt hb) hg⟩
theorem WrIs.new {w : World} {F : Nat → Prop} {g : Nat} (h : oct.WBlk w g (.slice none 0 0) 0) (hF : F g) : oct.WrIs w F g [] 0 := ⟨_, h, Owns.nil _ _, hF⟩
end Go.Proofs.YtdnkbgiellhfnaaDoor.opn
