/- Walks of the exact laws' helpers that write: marks put into lists, and looked for. -/
import Derived.Test.YtlpbfbghgacjiaaNd0
import Derived.Test.YtlpbfbghgacjiaaNd1
namespace Go.Proofs.Ytlpbfbghgacjiaa.Nd3
open Go.RowKit
open Nd0 Nd1
set_option linter.unusedVariables false

set_option maxHeartbeats 1000000 in
theorem markIntS (w : World) (B : Nat) (a : Option Addr) (l : List Int) (c : Nat) (h : WInts w B a l) (k0 : Int) (h0 : 0 ≤ k0) (h1 : k0 ≤ 100) (hl : l.length ≤ 1048576) :
    Calls Try.prog 65 #[.slice a l.length c, .int .i64 k0] w fun e w' => e = .returned (.int .i64 (k0 + l.length)) ∧ WInts w' B a (marks l.length k0) ∧ Kept (Ats l.length a) w w' := by
  have H : Hid (WInts w B a l) := h
  clear h
  generalize hn : l.length = n at hl ⊢
  go_enter Try.func65, Try.ntmps65
  go_wp2
  go_loopw [1, 5] (fun q i wr => ∃ k : Nat, k ≤ n ∧ i = .int .i64 k ∧ q = .int .i64 (k0 + k) ∧ Kept (Ats n a) w wr ∧ (n = 0 ∨ ∃ b o, a = some ⟨b, o, none⟩ ∧ B ≤ b ∧ ∀ j, j < n → ∃ v : Int, wr.cell? ⟨b, o + j, none⟩ = some (.int .i64 v) ∧ wr.frozen? ⟨b, o + j, none⟩ = false ∧ (j < k → v = k0 + j))) (fun _ i _ => n - (intOf i).toNat)
  case atStart =>
    refine ⟨0, Nat.zero_le _, rfl, by simp, Kept.refl _ _, ?_⟩
    rcases H.out.2 with e | ⟨b, o, ha, hB, hc⟩
    · exact .inl (by omega)
    · exact .inr ⟨b, o, ha, hB, fun j hj => ⟨l[j]'(by omega), (hc j (by omega)).1, (hc j (by omega)).2, fun x => by omega⟩⟩
  case round =>
    obtain ⟨k, hk, rfl, rfl, hb, hx⟩ := hrel
    by_cases hlt : k < n
    · have HK : Hid (Kept (Ats n a) w wr) := hb
      clear hb
      rcases hx with e | ⟨b, o, rfl, hB, hc⟩
      · omega
      have HC : Hid (∀ j, j < n → ∃ v : Int, wr.cell? ⟨b, o + j, none⟩ = some (.int .i64 v) ∧ wr.frozen? ⟨b, o + j, none⟩ = false ∧ (j < k → v = k0 + j)) := hc
      obtain ⟨v, p0, p1, _⟩ := hc k hlt
      clear hc
      have hlz : (k : Int) < (n : Int) := by omega
      go_wp2
      go_roundw
      case rel =>
        refine ⟨k + 1, by omega, by go_num, by go_num, HK.out.setCell (p := ⟨b, o + k, none⟩) ⟨by omega, _, rfl, rfl⟩ _, .inr ⟨b, o, rfl, hB, fun j hj => ?_⟩⟩
        obtain ⟨u, q0, q1, q2⟩ := HC.out j hj
        by_cases e : j = k
        · subst e
          exact ⟨_, set_same p0, by rw [World.frozen?_setCell]; exact p1, fun _ => rfl⟩
        · exact ⟨u, by rw [set_other (by simp <;> omega)]; exact q0, by rw [World.frozen?_setCell]; exact q1, fun x => q2 (by omega)⟩
      case measure => simp [intOf]; omega
    · go_wp2
      go_ret
      have e : k = n := by omega
      subst e
      refine ⟨rfl, ⟨by rw [marks_length]; have := H.out.1; omega, ?_⟩, hb⟩
      rcases hx with e | ⟨b, o, ha, hB, hc⟩
      · exact .inl (by rw [marks_length]; exact e)
      · refine .inr ⟨b, o, ha, hB, fun i hi => ?_⟩
        rw [marks_length] at hi
        obtain ⟨v, q0, q1, q2⟩ := hc i hi
        rw [marks_get, ← q2 hi]
        exact ⟨q0, q1⟩

set_option maxHeartbeats 1000000 in
theorem heldIntS (w : World) (a : Option Addr) (n : Nat) (c : Nat) (k0 : Int) (h : Ints w a (marks n k0)) (h0 : 0 ≤ k0) (h1 : k0 ≤ 100) (hl : n ≤ 1048576) :
    Calls Try.prog 66 #[.slice a n c, .int .i64 k0] w fun e w' => e = .returned (.int .i64 (k0 + n)) ∧ w' = w := by
  have H : Hid (Ints w a (marks n k0)) := h
  clear h
  go_enter Try.func66, Try.ntmps66
  go_wp2
  go_loop [1, 5] (fun q i => ∃ k : Nat, k ≤ n ∧ i = .int .i64 k ∧ q = .int .i64 (k0 + k)) (fun _ i => n - (intOf i).toNat)
  case atStart => exact ⟨0, Nat.zero_le _, rfl, by simp⟩
  case round =>
    obtain ⟨k, hk, rfl, rfl⟩ := hrel
    by_cases hlt : k < n
    · rcases H.out.2 with e | ⟨b, o, rfl, hc⟩
      · rw [marks_length] at e; omega
      have p0 := hc k (by rw [marks_length]; exact hlt)
      rw [marks_get] at p0
      clear hc
      have hlz : (k : Int) < (n : Int) := by omega
      go_wp2
      go_round
      case rel => exact ⟨k + 1, by omega, by go_num, by go_num⟩
      case measure => simp [intOf]; omega
    · go_wp2
      go_ret
      have e : k = n := by omega
      subst e
      exact ⟨rfl, rfl⟩

/-- Six marks from z on. -/
def mkN (z : Int) : Nd := ⟨z, z + 1, z + 1 + 1, z + 1 + 1 + 1, z + 1 + 1 + 1 + 1, z + 1 + 1 + 1 + 1 + 1⟩
/-- The nodes of marks from k0 on. -/
def markN (n : Nat) (k0 : Int) : List Nd := (List.range n).map fun (i : Nat) => (mkN (k0 + 6 * (i : Int)))
theorem markN_length (n : Nat) (k0 : Int) : (markN n k0).length = n := by simp [markN]
theorem markN_get (n : Nat) (k0 : Int) (i : Nat) (h : i < (markN n k0).length) : (markN n k0)[i] = (mkN (k0 + 6 * (i : Int))) := by simp [markN]

/-- A slice of the nodes l, in a block from B on, that may be written. -/
def WNodes (w : World) (B : Nat) (a : Option Addr) (l : List Nd) : Prop :=
  l.length ≤ maxLen ∧ (l.length = 0 ∨ ∃ b o, a = some ⟨b, o, none⟩ ∧ B ≤ b ∧ (∀ i (h : i < l.length), NodeAt w b (o + i * 6) l[i]) ∧ ∀ j, j < l.length * 6 → w.frozen? ⟨b, o + j, none⟩ = false)
theorem WNodes.nodes {w : World} {B : Nat} {a : Option Addr} {l : List Nd} (h : WNodes w B a l) : Nodes w a l := by
  refine ⟨h.1, ?_⟩
  rcases h.2 with h0 | ⟨b, o, ha, _, hc, _⟩
  · exact .inl h0
  · exact .inr ⟨b, o, ha, hc⟩

end Go.Proofs.Ytlpbfbghgacjiaa.Nd3
