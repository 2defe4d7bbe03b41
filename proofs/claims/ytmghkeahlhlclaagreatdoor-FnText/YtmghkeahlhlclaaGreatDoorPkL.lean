/- Small texts of mine, one behind the other. -/
import Derived.Deep.RegionHeld
import Derived.Test.YtmghkeahlhlclaaGreatDoorPkD
import Derived.Test.YtmghkeahlhlclaaGreatDoorPkF
import Derived.Test.YtmghkeahlhlclaaGreatDoorDw4
import Derived.Test.YtmghkeahlhlclaaGreatDoorSp11
import Derived.Test.YtmghkeahlhlclaaGreatDoorSp10
import Derived.Test.YtmghkeahlhlclaaGreatDoorPkB
import Derived.Test.YtmghkeahlhlclaaGreatDoorPkK
/- Draws below greater numbers, and of a text out of a list. -/
namespace Go.Proofs.YtmghkeahlhlclaaGreatDoor.Dr5
open Go.RowKit
open Nd0 Ss0 Ss2
open Dr0 (Cur Only)
open Dr1 (byte below)
set_option linter.unusedVariables false

set_option maxHeartbeats 1000000 in
theorem belowBig (w : World) (b : Nat) (a : Option Addr) (len cap : Nat) (n : Int) (h0 : 256 < n) (h1 : n ≤ 1048576) (hc : Cur w b a len cap) :
    Calls Tryz.prog 39 #[.pointer (some ⟨b, 0, none⟩), .int .i64 n] w fun e w' => (∃ x : Int, e = .returned (.int .i64 x) ∧ 0 ≤ x ∧ x < n) ∧ Cur w' b a len cap ∧ Only b w w' := by
  have HC : Hid (Cur w b a len cap) := hc
  clear hc
  go_enter Tryz.func39, Tryz.ntmps39
  go_wp2_with fail
  refine (byte _ b a len cap HC.out).mono ?_
  rintro e w1 ⟨⟨x1, rfl, hx10, hx11⟩, hc1, ho1⟩
  have HC1 : Hid (Cur w1 b a len cap) := hc1
  have HO1 : Hid (Only b w w1) := ho1
  clear hc1 ho1
  go_wp2_with fail
  refine (byte _ b a len cap HC1.out).mono ?_
  rintro e w2 ⟨⟨x2, rfl, hx20, hx21⟩, hc2, ho2⟩
  have HC2 : Hid (Cur w2 b a len cap) := hc2
  have HO2 : Hid (Only b w w2) := HO1.out.trans ho2
  clear hc2 ho2
  go_wp2_with fail
  refine (byte _ b a len cap HC2.out).mono ?_
  rintro e w3 ⟨⟨x3, rfl, hx30, hx31⟩, hc3, ho3⟩
  have HC3 : Hid (Cur w3 b a len cap) := hc3
  have HO3 : Hid (Only b w w3) := HO2.out.trans ho3
  clear hc3 ho3
  go_wp2_with fail
  refine (byte _ b a len cap HC3.out).mono ?_
  rintro e w4 ⟨⟨x4, rfl, hx40, hx41⟩, hc4, ho4⟩
  have HC4 : Hid (Cur w4 b a len cap) := hc4
  have HO4 : Hid (Only b w w4) := HO3.out.trans ho4
  clear hc4 ho4
  go_wp2
  go_ret
  exact ⟨⟨_, rfl, Int.emod_nonneg _ (by omega), Int.emod_lt_of_pos _ (by omega)⟩, HC4.out, HO4.out⟩
theorem belowAny (w : World) (b : Nat) (a : Option Addr) (len cap : Nat) (n : Int) (h0 : 1 ≤ n) (h1 : n ≤ 1048576) (hc : Cur w b a len cap) :
    Calls Tryz.prog 39 #[.pointer (some ⟨b, 0, none⟩), .int .i64 n] w fun e w' => (∃ x : Int, e = .returned (.int .i64 x) ∧ 0 ≤ x ∧ x < n) ∧ Cur w' b a len cap ∧ Only b w w' := by
  by_cases h : n ≤ 256
  · exact below w b a len cap n h0 h hc
  · exact belowBig w b a len cap n (by omega) h1 hc

set_option maxHeartbeats 1000000 in
theorem pickStr (w : World) (b : Nat) (a : Option Addr) (len cap : Nat) (g : Nat) (l : List (List UInt8)) (c : Nat) (h0 : 1 ≤ l.length) (h1 : l.length ≤ 256) (hg : g ≠ b) (hi : Strs w (some ⟨g, 0, none⟩) l) (hc : Cur w b a len cap) :
    Calls Tryz.prog 62 #[.pointer (some ⟨b, 0, none⟩), .slice (some ⟨g, 0, none⟩) l.length c] w fun e w' => (∃ x ∈ l, e = .returned (.string (bs x))) ∧ Cur w' b a len cap ∧ Only b w w' := by
  have HC : Hid (Cur w b a len cap) := hc
  have HI : Hid (Strs w (some ⟨g, 0, none⟩) l) := hi
  clear hc hi
  go_enter Tryz.func62, Tryz.ntmps62
  go_wp2_with fail
  refine (below _ b a len cap _ (by omega) (by omega) HC.out).mono ?_
  rintro e w' ⟨⟨x, rfl, hx0, hx1⟩, hc', ho'⟩
  have HC' : Hid (Cur w' b a len cap) := hc'
  have HO' : Hid (Only b w w') := ho'
  obtain ⟨k, rfl⟩ := Int.eq_ofNat_of_zero_le hx0
  have hkl : k < l.length := by omega
  rcases HI.out.2 with h | ⟨b', o', he, hcl⟩
  · omega
  cases he
  have q0 : w'.cell? ⟨g, k, none⟩ = some (.string (bs l[k])) := by
    have := hcl k hkl
    rw [Nat.zero_add] at this
    rw [ho'.cell (p := ⟨g, k, none⟩) (lt_of_cell this) hg]; exact this
  clear hc' ho' hcl
  have HM : Hid (l[k] ∈ l) := List.getElem_mem hkl
  generalize l[k] = y at q0 HM
  go_wp2
  go_ret
  exact ⟨⟨y, HM.out, rfl⟩, HC'.out, HO'.out⟩

end Go.Proofs.YtmghkeahlhlclaaGreatDoor.Dr5

/- Formulas of every depth drawn; the draw of a sentence. -/
namespace Go.Proofs.YtmghkeahlhlclaaGreatDoor.Dw5
open Go.RowKit
open Nd0 Nd3 Ap2 Dw0 Dw1 Dw2 Dw3 Dw4 Tm0 Tm6
open Dr0 (Cur Only Bytes Off)
open Dr1 (once below)
open Sp11 (sSentence)
set_option linter.unusedVariables false

theorem madeC (d : Nat) : MadeC d := by
  induction d with
  | zero => exact madeAny 0 (fun d h => by omega)
  | succ d ih => exact madeAny (d + 1) (fun d' h => by have : d' = d := by omega
                                                       subst this; exact ih)

/-- A sentence drawn: its list, in a block behind the cursor's. -/
def SPost (b : Nat) (a : Option Addr) (len cap : Nat) (w : World) (e : Ending) (w' : World) : Prop :=
  ∃ (g c : Nat) (L : List Nd), e = .returned (.slice (some ⟨g, 0, none⟩) L.length c) ∧ Dr w' b a len cap (.slice (some ⟨g, 0, none⟩) L.length c) L ∧ Kept (fun k => k = b) w w' ∧ 1 ≤ L.length ∧ L.length ≤ 80 ∧ w.heap.size ≤ g

theorem own_at {w : World} {B : Nat} {v : Value} {l : List Nd} (h : Own w B v l) (hl : 1 ≤ l.length) : ∃ g c, v = .slice (some ⟨g, 0, none⟩) l.length c := by
  obtain ⟨h1, h2⟩ := h
  rcases h2 with ⟨rfl, h0⟩ | ⟨g, cap, cur, rfl, _⟩
  · omega
  · exact ⟨g, cap, rfl⟩
theorem sent_len {l : List Nd} (h : sentB l = true) : 1 ≤ l.length := by
  have : termOk l = true := by
    cases ht : termOk l
    · rw [sent_term ht] at h; cases h
    · rfl
  exact (term_len this).1
theorem stp_kept {b : Nat} {v v' : Value} {w0 w w' : World} (hk : Kept (fun k => k = b) w0 w) (s : Stp b v v' w w') (hv : ∀ k, v.ownBlock = some k → w0.heap.size ≤ k) : Kept (fun k => k = b) w0 w' := by
  refine ⟨s.kept.os.trans hk.os, s.kept.tape.trans hk.tape, s.kept.output.trans hk.output, Nat.le_trans hk.size s.kept.size, fun i hi hb => ?_⟩
  rw [s.kept.block i (Nat.lt_of_lt_of_le hi hk.size) (fun e => ?_)]
  · exact hk.block i hi hb
  · rcases e with e | e
    · exact hb e
    · have := hv i e; omega

set_option maxRecDepth 100000 in
set_option maxHeartbeats 4000000 in
theorem sentence (w : World) (b : Nat) (a : Option Addr) (len cap : Nat) (bits : Int) (hc : Cur w b a len cap) (hlo : Low a len b) (hb0 : 0 ≤ bits) (hb1 : bits ≤ 100) :
    Calls Tryz.prog 38 #[.pointer (some ⟨b, 0, none⟩), .int .i64 bits] w (SPost b a len cap w) := by
  have hbs := hc.lt
  have hB1 : Below w.heap.size w (w.alloc (.cells #[] 48)) := (Below.refl _ _).alloc (Nat.le_refl _) _
  have hB2 : Below w.heap.size w ((w.alloc (.cells #[] 48)).alloc (.cells #[] 48)) := hB1.alloc (by simp) _
  have HD : Hid (Dr ((w.alloc (.cells #[] 48)).alloc (.cells #[] 48)) b a len cap (.slice (some ⟨w.heap.size, 0, none⟩) 0 0) []) :=
    ⟨cur_kept hc (S := fun _ => False) (Kept.ofBelow hB2) (fun h => h) (.inr fun _ _ h => h), World.ownsRow.alloc (Own.lit w _ (by omega)) _, hlo⟩
  have HK : Hid (Kept (fun k => k = b) w ((w.alloc (.cells #[] 48)).alloc (.cells #[] 48))) := Kept.ofBelow hB2
  clear hc hlo hB1 hB2
  go_enter Tryz.func38, Tryz.ntmps38
  go_wp2_with fail
  refine (madeC 4 _ b a len cap (.slice (some ⟨w.heap.size, 0, none⟩) 0 0) [] (some ⟨w.heap.size + 1, 0, none⟩) [] 0 0 bits 4 rfl HD.out ⟨⟨Nat.zero_le _, .inl rfl⟩, fun x h => absurd h (Nat.not_lt_zero _)⟩ (fun i h => absurd h (Nat.not_lt_zero _)) (by simp) (by omega) hb0 hb1 (by show 0 + gd 4 ≤ _; decide)).mono ?_
  rintro e w1 ⟨v1, L1, at1, n1, lf1, rfl, hd, hs, hl, _, _, _, _⟩
  obtain ⟨ta, tc, rfl⟩ := hd.slice
  have HD1 : Hid (Dr w1 b a len cap (.slice ta L1.length tc) L1) := hd
  have HK1 : Hid (Kept (fun k => k = b) w w1) := stp_kept HK.out hs (fun k hk => by cases hk; exact Nat.le_refl _)
  have hl1 : L1.length ≤ 700 := by
    have : gd 4 = 655 := by decide
    simp at hl; omega
  have HG1 : Hid (∀ k, (Value.slice ta L1.length tc).ownBlock = some k → w.heap.size ≤ k) := by
    show ∀ _, _
    intro k hk
    rcases hs.new k hk with e | e
    · cases e; exact Nat.le_refl _
    · simp at e; omega
  clear hd hs hl HD HK
  have HLIT : Hid (∀ wz : World, Dr wz b a len cap (.slice ta L1.length tc) L1 → Kept (fun k => k = b) w wz → SPost b a len cap w (.returned (.slice (some ⟨wz.heap.size, 0, none⟩) 2 2)) (wz.alloc (.cells #[.int .i64 1, .int .i64 1, .int .i64 0, .int .i64 0, .int .i64 0, .int .i64 0, .int .i64 20, .int .i64 1, .int .i64 0, .int .i64 0, .int .i64 1, .int .i64 0] 48))) := by
    show ∀ _, _
    intro wz hd hk
    refine ⟨wz.heap.size, 2, [⟨1, 1, 0, 0, 0, 0⟩, ⟨20, 1, 0, 0, 1, 0⟩], rfl, ⟨cur_kept hd.cur (S := fun _ => False) ((Kept.refl _ _).alloc _) (fun h => h) (.inr fun _ _ h => h), ?_, hd.low⟩, hk.alloc _, by simp, by simp, hk.size⟩
    exact World.ownsRow_lit wz #[.int .i64 1, .int .i64 1, .int .i64 0, .int .i64 0, .int .i64 0, .int .i64 0, .int .i64 20, .int .i64 1, .int .i64 0, .int .i64 0, .int .i64 1, .int .i64 0] 2 hd.size (by decide) rfl
  by_cases h80 : 80 < L1.length
  · have h81 : (80 : Int) < (L1.length : Int) := by omega
    go_wp2
    go_ret
    exact HLIT.out _ HD1.out HK1.out
  · have h81 : ¬ (80 : Int) < (L1.length : Int) := by omega
    go_wp2_with fail
    obtain ⟨a2, c2, hv2, hw2⟩ := HD1.out.own.form
    cases hv2
    refine (sSentence _ _ L1 _ hw2.nodes).mono ?_
    rintro e w2 ⟨rfl, hb2⟩
    have HD2 : Hid (Dr w2 b a len cap (.slice ta L1.length tc) L1) := HD1.out.below hb2
    have HK2 : Hid (Kept (fun k => k = b) w w2) := HK1.out.trans (Kept.ofBelow hb2)
    clear hb2 hw2
    cases hS : sentB L1
    · go_wp2
      go_ret
      exact HLIT.out _ HD2.out HK2.out
    · have h1 := sent_len hS
      obtain ⟨g3, c3, hv3⟩ := own_at HD2.out.own h1
      cases hv3
      clear hS
      go_wp2
      go_ret
      exact ⟨g3, tc, L1, rfl, HD2.out, HK2.out, h1, by omega, HG1.out _ rfl⟩

end Go.Proofs.YtmghkeahlhlclaaGreatDoor.Dw5

/- The draw of any list of nodes: a sentence, spoilt or not. -/
namespace Go.Proofs.YtmghkeahlhlclaaGreatDoor.Dw6
open Go.RowKit
open Nd0 Nd3 Ap2 Dw0 Dw1 Dw2 Dw3 Dw4 Dw5
open Dr0 (Cur Only Bytes Off)
open Dr1 (once below)
open Dr4 (pickNew)
set_option linter.unusedVariables false

/-- The first n * 6 cells of block g are whole numbers, and may be written. -/
def Wild (w : World) (g n : Nat) : Prop := ∀ p, p < n * 6 → (∃ x : Int, w.cell? ⟨g, p, none⟩ = some (.int .i64 x)) ∧ w.frozen? ⟨g, p, none⟩ = false
theorem own_wild {w : World} {B g c : Nat} {L : List Nd} (h : Own w B (.slice (some ⟨g, 0, none⟩) L.length c) L) : Wild w g L.length := by
  obtain ⟨a', c', hv, hw⟩ := h.form
  cases hv
  intro p hp
  rcases hw.2 with h0 | ⟨b', o', he, _, hc, hf⟩
  · omega
  · cases he
    refine ⟨?_, by have := hf p hp; rw [Nat.zero_add] at this; exact this⟩
    obtain ⟨c0, c1, c2, c3, c4, c5⟩ := hc (p / 6) (by omega)
    have h6 : p = 0 + p / 6 * 6 ∨ p = 0 + p / 6 * 6 + 1 ∨ p = 0 + p / 6 * 6 + 2 ∨ p = 0 + p / 6 * 6 + 3 ∨ p = 0 + p / 6 * 6 + 4 ∨ p = 0 + p / 6 * 6 + 5 := by omega
    rcases h6 with r | r | r | r | r | r
    · exact ⟨_, by rw [r]; exact c0⟩
    · exact ⟨_, by rw [r]; exact c1⟩
    · exact ⟨_, by rw [r]; exact c2⟩
    · exact ⟨_, by rw [r]; exact c3⟩
    · exact ⟨_, by rw [r]; exact c4⟩
    · exact ⟨_, by rw [r]; exact c5⟩
theorem Wild.set {w : World} {g n : Nat} (h : Wild w g n) {p : Nat} (hp : p < n * 6) (x : Int) : Wild (w.setCell ⟨g, p, none⟩ (.int .i64 x)) g n := by
  intro q hq
  refine ⟨?_, by simp only [World.frozen?_setCell]; exact (h q hq).2⟩
  by_cases e : q = p
  · subst e
    obtain ⟨y, hy⟩ := (h q hq).1
    exact ⟨x, set_same hy⟩
  · obtain ⟨y, hy⟩ := (h q hq).1
    exact ⟨y, by rw [set_other (by intro z; cases z; exact e rfl)]; exact hy⟩
theorem Wild.kept {w w' : World} {g n : Nat} (h : Wild w g n) {S : Nat → Prop} (k : Kept S w w') (hs : ¬ S g) : Wild w' g n := by
  intro q hq
  obtain ⟨⟨y, hy⟩, hf⟩ := h q hq
  exact ⟨⟨y, by rw [k.cell (p := ⟨g, q, none⟩) (lt_of_cell hy) hs]; exact hy⟩, by rw [k.frozen (p := ⟨g, q, none⟩) (lt_of_cell hy) hs]; exact hf⟩
def val (o : Option Value) : Int := match o with | some (.int _ x) => x | _ => 0
theorem Wild.nodes {w : World} {g n : Nat} (h : Wild w g n) (hn : n ≤ maxLen) : ∃ L : List Nd, L.length = n ∧ Nodes w (some ⟨g, 0, none⟩) L := by
  refine ⟨(List.range n).map fun i => ⟨val (w.cell? ⟨g, i * 6, none⟩), val (w.cell? ⟨g, i * 6 + 1, none⟩), val (w.cell? ⟨g, i * 6 + 2, none⟩), val (w.cell? ⟨g, i * 6 + 3, none⟩), val (w.cell? ⟨g, i * 6 + 4, none⟩), val (w.cell? ⟨g, i * 6 + 5, none⟩)⟩, by simp, by simpa using hn, .inr ⟨g, 0, rfl, fun i hi => ?_⟩⟩
  have hi' : i < n := by simpa using hi
  have hv : ∀ r, r < 6 → w.cell? ⟨g, i * 6 + r, none⟩ = some (.int .i64 (val (w.cell? ⟨g, i * 6 + r, none⟩))) := by
    intro r hr
    obtain ⟨⟨y, hy⟩, _⟩ := h (i * 6 + r) (by omega)
    rw [hy]; rfl
  have e : ((List.range n).map fun i => (⟨val (w.cell? ⟨g, i * 6, none⟩), val (w.cell? ⟨g, i * 6 + 1, none⟩), val (w.cell? ⟨g, i * 6 + 2, none⟩), val (w.cell? ⟨g, i * 6 + 3, none⟩), val (w.cell? ⟨g, i * 6 + 4, none⟩), val (w.cell? ⟨g, i * 6 + 5, none⟩)⟩ : Nd))[i] = ⟨val (w.cell? ⟨g, i * 6, none⟩), val (w.cell? ⟨g, i * 6 + 1, none⟩), val (w.cell? ⟨g, i * 6 + 2, none⟩), val (w.cell? ⟨g, i * 6 + 3, none⟩), val (w.cell? ⟨g, i * 6 + 4, none⟩), val (w.cell? ⟨g, i * 6 + 5, none⟩)⟩ := by simp
  rw [e, Nat.zero_add]
  exact ⟨hv 0 (by omega), hv 1 (by omega), hv 2 (by omega), hv 3 (by omega), hv 4 (by omega), hv 5 (by omega)⟩
theorem own_cap {w : World} {B g n c : Nat} {L : List Nd} (h : Own w B (.slice (some ⟨g, 0, none⟩) n c) L) : L.length ≤ c := by
  obtain ⟨h1, h2⟩ := h
  rcases h2 with ⟨h0, _⟩ | ⟨g', cap, cur, he, hb, hg, hn, rest⟩
  · cases h0
  · cases he; exact hn

/-- Some list of nodes, in a block behind the cursor's. -/
def APost (b : Nat) (a : Option Addr) (len cap : Nat) (w : World) (e : Ending) (w' : World) : Prop :=
  ∃ (g c : Nat) (L : List Nd), e = .returned (.slice (some ⟨g, 0, none⟩) L.length c) ∧ Nodes w' (some ⟨g, 0, none⟩) L ∧ b < g ∧ g < w'.heap.size ∧ Cur w' b a len cap ∧ Kept (fun k => k = b) w w' ∧ 1 ≤ L.length ∧ L.length ≤ 81 ∧ L.length ≤ c

theorem apost {b : Nat} {a : Option Addr} {len cap : Nat} {w w' : World} {g n c : Nat} (hw : Wild w' g n) (hb : b < g) (hc : Cur w' b a len cap) (hk : Kept (fun k => k = b) w w') (h1 : 1 ≤ n) (h2 : n ≤ 81) (h3 : n ≤ c) : APost b a len cap w (.returned (.slice (some ⟨g, 0, none⟩) n c)) w' := by
  obtain ⟨L, rfl, hL⟩ := hw.nodes (by unfold maxLen; omega)
  obtain ⟨⟨x, hx⟩, _⟩ := hw 0 (by omega)
  exact ⟨g, c, L, rfl, hL, hb, lt_of_cell hx, hc, hk, h1, h2, h3⟩
/-- .. a cell of it written. -/
theorem apost_set {b : Nat} {a : Option Addr} {len cap : Nat} {w w' : World} {g n c p : Nat} {x : Int} (hlo : Low a len b) (hw : Wild w' g n) (hb : b < g) (hg : w.heap.size ≤ g) (hc : Cur w' b a len cap) (hk : Kept (fun k => k = b) w w') (h1 : 1 ≤ n) (h2 : n ≤ 81) (h3 : n ≤ c) (hp : p < n * 6) : APost b a len cap w (.returned (.slice (some ⟨g, 0, none⟩) n c)) (w'.setCell ⟨g, p, none⟩ (.int .i64 x)) := by
  have hS : Kept (fun k => k = g) w' (w'.setCell ⟨g, p, none⟩ (.int .i64 x)) := (Kept.refl (fun k => k = g) w').setCell (p := ⟨g, p, none⟩) rfl _
  refine apost (hw.set hp x) hb (cur_kept hc hS (by show ¬ b = g; omega) ?_) ?_ h1 h2 h3
  · rcases hlo with h0 | hl
    · exact .inl h0
    · exact .inr fun y hy e => by have := hl y hy; have : y.block = g := e; omega
  · refine ⟨hS.os.trans hk.os, hS.tape.trans hk.tape, hS.output.trans hk.output, Nat.le_trans hk.size hS.size, fun i hi hn => ?_⟩
    rw [hS.block i (Nat.lt_of_lt_of_le hi hk.size) (by show ¬ i = g; omega)]
    exact hk.block i hi hn

end Go.Proofs.YtmghkeahlhlclaaGreatDoor.Dw6

/- The walk of the draw of any list of nodes. -/
namespace Go.Proofs.YtmghkeahlhlclaaGreatDoor.Dw7
open Go.RowKit
open Nd0 Nd3 Ap2 Dw0 Dw1 Dw2 Dw3 Dw4 Dw5 Dw6
open Dr0 (Cur Only Bytes Off)
open Dr1 (once below)
open Dr4 (pickNew)
set_option linter.unusedVariables false

theorem four (p q r s : Int) : ∀ i, i < 4 → ∃ v : Int, (#[.int .i64 p, .int .i64 q, .int .i64 r, .int .i64 s] : Array Value)[i]? = some (.int .i64 v) := by
  intro i hi
  have h : i = 0 ∨ i = 1 ∨ i = 2 ∨ i = 3 := by omega
  rcases h with rfl | rfl | rfl | rfl
  · exact ⟨p, rfl⟩
  · exact ⟨q, rfl⟩
  · exact ⟨r, rfl⟩
  · exact ⟨s, rfl⟩

set_option maxRecDepth 100000 in
set_option maxHeartbeats 8000000 in
theorem anyNodes (w : World) (b : Nat) (a : Option Addr) (len cap : Nat) (hc : Cur w b a len cap) (hlo : Low a len b) :
    Calls Tryz.prog 23 #[.pointer (some ⟨b, 0, none⟩)] w (APost b a len cap w) := by
  have HC0 : Hid (Cur w b a len cap) := hc
  have HLO : Hid (Low a len b) := hlo
  have HBS : Hid (b < w.heap.size) := hc.lt
  clear hc hlo
  go_enter Tryz.func23, Tryz.ntmps23
  go_wp2_with fail
  refine (sentence _ b a len cap 8 HC0.out HLO.out (by omega) (by omega)).mono ?_
  rintro e w1 ⟨g, c, L, rfl, hd, hk, hl1, hl2, hg⟩
  have HD1 : Hid (Dr w1 b a len cap (.slice (some ⟨g, 0, none⟩) L.length c) L) := hd
  have HK1 : Hid (Kept (fun k => k = b) w w1) := hk
  have HG : Hid (w.heap.size ≤ g) := hg
  have HGB : Hid (b < g) := by have := HBS.out; show _ < _; omega
  have HCAP : Hid (L.length ≤ c) := own_cap hd.own
  clear hd hk hg HC0
  go_wp2_with fail
  refine (below _ b a len cap _ (by omega) (by omega) HD1.out.cur).mono ?_
  rintro e w2 ⟨⟨x2, rfl, hx2, hy2⟩, hc', ho'⟩
  obtain ⟨i, rfl⟩ := Int.eq_ofNat_of_zero_le hx2
  have HD2 : Hid (Dr w2 b a len cap (.slice (some ⟨g, 0, none⟩) L.length c) L) := HD1.out.only hc' ho'
  have HK2 : Hid (Kept (fun k => k = b) w w2) := HK1.out.trans (only_kept ho')
  have hil : i < L.length := by omega
  clear hc' ho' HD1 HK1 hx2
  go_wp2_with fail
  refine (below _ b a len cap _ (by omega) (by omega) HD2.out.cur).mono ?_
  rintro e w3 ⟨⟨x, rfl, hx3, hy3⟩, hc', ho'⟩
  have HD3 : Hid (Dr w3 b a len cap (.slice (some ⟨g, 0, none⟩) L.length c) L) := HD2.out.only hc' ho'
  have HK3 : Hid (Kept (fun k => k = b) w w3) := HK2.out.trans (only_kept ho')
  clear hc' ho' HD2 HK2
  by_cases e0 : x = 0
  ·
    have t0 : (x == 0) = true := by simpa using e0
    clear e0
    go_wp2_with fail
    refine (pickNew w3 b a len cap #[.int .i64 0, .int .i64 1, .int .i64 2, .int .i64 9] 3 4 (by omega) (by omega) (four _ _ _ _) HD3.out.cur).mono ?_
    rintro e w4 ⟨⟨x4, rfl⟩, hc', ho'⟩
    have HC4 : Hid (Cur w4 b a len cap) := hc'
    have HK4 : Hid (Kept (fun k => k = b) w w4) := HK3.out.trans (only_kept ho')
    have HW9 : Hid (Wild w4 g L.length) := (own_wild HD3.out.own).kept (only_kept ho') (by have := HGB.out; show ¬ g = b; omega)
    obtain ⟨⟨z9, hz9⟩, hf9⟩ := HW9.out (i * 6 + 1) (by omega)
    clear hc' ho'
    go_wp2
    go_ret
    exact apost_set HLO.out HW9.out HGB.out HG.out HC4.out HK4.out hl1 (by omega) HCAP.out (by omega)
  have t0 : (x == 0) = false := by simpa using e0
  by_cases e1 : x = 1
  ·
    have t1 : (x == 1) = true := by simpa using e1
    clear e0 e1
    go_wp2_with fail
    refine (below _ b a len cap _ (by omega) (by omega) HD3.out.cur).mono ?_
    rintro e w4 ⟨⟨x4, rfl, hx4, hy4⟩, hc', ho'⟩
    have HC4 : Hid (Cur w4 b a len cap) := hc'
    have HK4 : Hid (Kept (fun k => k = b) w w4) := HK3.out.trans (only_kept ho')
    have HW9 : Hid (Wild w4 g L.length) := (own_wild HD3.out.own).kept (only_kept ho') (by have := HGB.out; show ¬ g = b; omega)
    obtain ⟨⟨z9, hz9⟩, hf9⟩ := HW9.out (i * 6 + 3) (by omega)
    clear hc' ho'
    go_wp2
    go_ret
    exact apost_set HLO.out HW9.out HGB.out HG.out HC4.out HK4.out hl1 (by omega) HCAP.out (by omega)
  have t1 : (x == 1) = false := by simpa using e1
  by_cases e2 : x = 2
  ·
    have t2 : (x == 2) = true := by simpa using e2
    clear e0 e1 e2
    go_wp2_with fail
    refine (pickNew w3 b a len cap #[.int .i64 (-1), .int .i64 0, .int .i64 1, .int .i64 8] 3 4 (by omega) (by omega) (four _ _ _ _) HD3.out.cur).mono ?_
    rintro e w4 ⟨⟨x4, rfl⟩, hc', ho'⟩
    have HC4 : Hid (Cur w4 b a len cap) := hc'
    have HK4 : Hid (Kept (fun k => k = b) w w4) := HK3.out.trans (only_kept ho')
    have HW9 : Hid (Wild w4 g L.length) := (own_wild HD3.out.own).kept (only_kept ho') (by have := HGB.out; show ¬ g = b; omega)
    obtain ⟨⟨z9, hz9⟩, hf9⟩ := HW9.out (i * 6 + 2) (by omega)
    clear hc' ho'
    go_wp2
    go_ret
    exact apost_set HLO.out HW9.out HGB.out HG.out HC4.out HK4.out hl1 (by omega) HCAP.out (by omega)
  have t2 : (x == 2) = false := by simpa using e2
  by_cases e3 : x = 3
  ·
    have t3 : (x == 3) = true := by simpa using e3
    clear e0 e1 e2 e3
    go_wp2_with fail
    refine (below _ b a len cap _ (by omega) (by omega) HD3.out.cur).mono ?_
    rintro e w4 ⟨⟨x4, rfl, hx4, hy4⟩, hc', ho'⟩
    have HC4 : Hid (Cur w4 b a len cap) := hc'
    have HK4 : Hid (Kept (fun k => k = b) w w4) := HK3.out.trans (only_kept ho')
    have HW9 : Hid (Wild w4 g L.length) := (own_wild HD3.out.own).kept (only_kept ho') (by have := HGB.out; show ¬ g = b; omega)
    obtain ⟨⟨z9, hz9⟩, hf9⟩ := HW9.out (i * 6) (by omega)
    clear hc' ho'
    go_wp2
    go_ret
    exact apost_set HLO.out HW9.out HGB.out HG.out HC4.out HK4.out hl1 (by omega) HCAP.out (by omega)
  have t3 : (x == 3) = false := by simpa using e3
  by_cases e4 : x = 4
  ·
    have t4 : (x == 4) = true := by simpa using e4
    clear e0 e1 e2 e3 e4
    have hcc : i + 1 ≤ c := by have := HCAP.out; omega
    have hcz : (i : Int) + 1 ≤ (c : Int) := by omega
    go_wp2
    go_ret
    have hwi := own_wild HD3.out.own
    exact apost (n := i + 1) (fun p hp => hwi p (by omega)) HGB.out HD3.out.cur HK3.out (by omega) (by omega) (by omega)
  have t4 : (x == 4) = false := by simpa using e4
  by_cases e5 : x = 5
  ·
    have t5 : (x == 5) = true := by simpa using e5
    clear e0 e1 e2 e3 e4 e5
    by_cases hi0 : 0 < i
    · have hiz : (0 : Int) < (i : Int) := by omega
      obtain ⟨⟨z9, hz9⟩, hf9⟩ := (own_wild HD3.out.own) (i * 6 + 1) (by omega)
      have hB3 : b + 1 ≤ w3.heap.size := HD3.out.size
      go_wp2_with (at_builtin; go_must (refine app_node w3 rfl _ _ rfl (b + 1) (.slice (some ⟨g, 0, none⟩) L.length c) L ⟨2, z9, 0, i, 0, 0⟩ rfl w3.heap.size rfl rfl HD3.out.own hB3 (by omega) ?_; intro g5 cp5 w5 ho5 hk5 hg5))
      have HD5 : Hid (Dr w5 b a len cap (.slice (some ⟨g5, 0, none⟩) (L.length + 1) cp5) (L ++ [⟨2, z9, 0, i, 0, 0⟩])) := HD3.out.grow hk5 ho5
      have HG5 : Hid (w.heap.size ≤ g5) := by
        have h1 := HG.out
        have h2 := HK3.out.size
        rcases hg5 with e | e
        · cases e; exact h1
        · show _ ≤ _; omega
      have HK5 : Hid (Kept (fun k => k = b) w w5) := by
        refine ⟨hk5.os.trans HK3.out.os, hk5.tape.trans HK3.out.tape, hk5.output.trans HK3.out.output, Nat.le_trans HK3.out.size hk5.size, fun k hk hn => ?_⟩
        rw [hk5.block k (Nat.lt_of_lt_of_le hk HK3.out.size) (fun e => by have h1 : g = k := Option.some.inj e; have := HG.out; omega)]
        exact HK3.out.block k hk hn
      clear ho5 hk5 hg5
      go_wp2
      go_ret
      have e9 : (L ++ [(⟨2, z9, 0, i, 0, 0⟩ : Nd)]).length = L.length + 1 := by simp
      have hw9 := own_wild (w := w5) (B := b + 1) (g := g5) (c := cp5) (L := L ++ [⟨2, z9, 0, i, 0, 0⟩]) (by rw [e9]; exact HD5.out.own)
      have hc9 := own_cap HD5.out.own
      rw [e9] at hw9 hc9
      exact apost hw9 (by have := HBS.out; have := HG5.out; omega) HD5.out.cur HK5.out (by omega) (by omega) hc9
    · have hiz : ¬ (0 : Int) < (i : Int) := by omega
      go_wp2
      go_ret
      exact apost (own_wild HD3.out.own) HGB.out HD3.out.cur HK3.out hl1 (by omega) HCAP.out
  have t5 : (x == 5) = false := by simpa using e5
  clear e0 e1 e2 e3 e4 e5
  go_wp2
  go_ret
  exact apost (own_wild HD3.out.own) HGB.out HD3.out.cur HK3.out hl1 (by omega) HCAP.out

end Go.Proofs.YtmghkeahlhlclaaGreatDoor.Dw7

/- The draws of chapters 2 and 4: a list of nodes, one with free variables, values for them. -/
namespace Go.Proofs.YtmghkeahlhlclaaGreatDoor.Dw8
open Go.RowKit
open Nd0 Nd3 Ap0 Ap2 Tm5 Dw0 Dw4 Dw5 Dw6 Dw7
open Dr0 (Cur Only Bytes Off)
open Dr1 (once below)
open Sp10 (sQuant)
set_option linter.unusedVariables false

theorem nodes_take {w : World} {g : Nat} {L : List Nd} (h : Nodes w (some ⟨g, 0, none⟩) L) {m : Nat} (hm : m ≤ L.length) : Nodes w (some ⟨g, 0, none⟩) (L.take m) := by
  refine ⟨by rw [List.length_take]; have := h.1; omega, ?_⟩
  by_cases h0 : m = 0
  · exact .inl (by subst h0; simp)
  · rcases h.2 with e | ⟨b, o, he, hc⟩
    · omega
    · refine .inr ⟨b, o, he, fun i hi => ?_⟩
      have hi' : i < L.length := by rw [List.length_take] at hi; omega
      rw [List.getElem_take]; exact hc i hi'

theorem low_of {w : World} {a : Option Addr} {len : Nat} (h : Bytes w a len) : Low a len w.heap.size := by
  rcases h.2 with h0 | ⟨xb, xo, rfl, hc⟩
  · exact .inl h0
  · by_cases hl : len = 0
    · exact .inl hl
    · refine .inr fun x hx => ?_
      cases hx
      obtain ⟨v, _, _, hv⟩ := hc 0 (by omega)
      exact lt_of_cell (p := ⟨xb, xo + 0, none⟩) hv

/-- Some list of nodes that was drawn. -/
def NPost (w : World) (e : Ending) (w' : World) : Prop :=
  ∃ (g c : Nat) (L : List Nd), e = .returned (.slice (some ⟨g, 0, none⟩) L.length c) ∧ Nodes w' (some ⟨g, 0, none⟩) L ∧ Below w.heap.size w w' ∧ 1 ≤ L.length ∧ L.length ≤ 81 ∧ L.length ≤ c

/-- Some list of nodes that was drawn, and values beside it. -/
def VPost (w : World) (e : Ending) (w' : World) : Prop :=
  ∃ (g c : Nat) (L : List Nd) (v : Value), e = .returned (.tuple #[.slice (some ⟨g, 0, none⟩) L.length c, v]) ∧ Nodes w' (some ⟨g, 0, none⟩) L ∧ Below w.heap.size w w' ∧ 1 ≤ L.length ∧ L.length ≤ 81 ∧ L.length ≤ c

end Go.Proofs.YtmghkeahlhlclaaGreatDoor.Dw8

/- The draw of a text. -/
namespace Go.Proofs.YtmghkeahlhlclaaGreatDoor.Dx1
open Go.RowKit
open Nd0 Nd3 Ap2 Tm0 Tx0 Tx4 Dw0 Dw5 Dr5 Ss0 Ss1 Ss2 Ss10
open Dr0 (Cur Only Bytes)
open Dr1 (below)
set_option linter.unusedVariables false

def pick1 : List (List UInt8) := [[32], [41], [40], [118, 48, 58, 49], [35, 49, 58, 48], [120], [58], [57]]
def pick3 : List (List UInt8) := [[32], [41], [120]]
def pick4 : List (List UInt8) := [[], [35, 49, 58, 48], [35, 49, 58, 50], [35, 57, 58, 48], [118, 56, 58, 49], [118, 48, 58, 57], [35, 48, 49, 58, 48], [40, 110, 111, 116, 41], [40, 110, 111, 116, 32, 35, 50, 58, 51, 41], [40, 115, 108, 105, 99, 101, 32, 49, 32, 50, 32, 35, 51, 58, 53, 41], [40, 115, 108, 105, 99, 101, 32, 50, 32, 50, 32, 35, 51, 58, 53, 41], [40, 106, 111, 105, 110, 32, 35, 52, 58, 49, 32, 35, 53, 58, 50, 41], [40, 105, 102, 32, 35, 49, 58, 49, 32, 35, 50, 58, 50, 32, 35, 50, 58, 51, 41], [40, 61, 32, 35, 49, 58, 48, 32, 35, 50, 58, 48, 41], [40, 97, 108, 108, 32, 118, 48, 58, 48, 32, 35, 49, 58, 49, 41], [40, 32, 110, 111, 116, 32, 35, 49, 58, 49, 41], [40, 97, 110, 100, 32, 35, 49, 58, 48, 32, 35, 49, 58, 48, 41, 32], [35, 49, 48, 48, 48, 48, 48, 48, 48, 48, 48, 58, 48]]
theorem pick1_size : ∀ x ∈ pick1, x.length ≤ 20 := by decide
theorem pick3_size : ∀ x ∈ pick3, x.length ≤ 20 := by decide
theorem pick4_size : ∀ x ∈ pick4, x.length ≤ 20 := by decide
theorem cur_below {w w' : World} {b : Nat} {a : Option Addr} {len cap : Nat} (h : Cur w b a len cap) (k : Below w.heap.size w w') : Cur w' b a len cap := cur_kept h (S := fun _ => False) (Kept.ofBelow k) (fun h => h) (.inr fun _ _ h => h)
theorem cur_drew {w : World} {b : Nat} {a : Option Addr} {len cap : Nat} (h : Cur w b a len cap) : Cur w.drew b a len cap := cur_below h ⟨rfl, rfl, rfl, Nat.le_refl _, fun _ _ => rfl⟩
theorem cur_alloc {w : World} {b : Nat} {a : Option Addr} {len cap : Nat} (h : Cur w b a len cap) (o : Obj) : Cur (w.alloc o) b a len cap := cur_below h ((Below.refl _ _).alloc (Nat.le_refl _) _)

/-- Some text that is not too long. -/
def XPost (b : Nat) (w : World) (e : Ending) (w' : World) : Prop := (∃ S : ByteArray, e = .returned (.string S) ∧ S.size ≤ 4100) ∧ Kept (fun k => k = b) w w'

set_option maxRecDepth 100000 in
set_option maxHeartbeats 2000000 in
theorem textAny (w : World) (b : Nat) (a : Option Addr) (len cap : Nat) (hc : Cur w b a len cap) (hlo : Low a len b) :
    Calls Tryz.prog 35 #[.pointer (some ⟨b, 0, none⟩)] w (XPost b w) := by
  have HC : Hid (Cur w b a len cap) := hc
  have HLO : Hid (Low a len b) := hlo
  clear hc hlo
  go_enter Tryz.func35, Tryz.ntmps35
  go_wp2_with fail
  refine (sentence _ b a len cap 8 HC.out HLO.out (by omega) (by omega)).mono ?_
  rintro e w1 ⟨g, c, L, rfl, hdr, hk1, h1, h2, hg⟩
  have HC1 : Hid (Cur w1 b a len cap) := hdr.cur
  have HK1 : Hid (Kept (fun k => k = b) w w1) := hk1
  have HN1 : Hid (Nodes w1 (some ⟨g, 0, none⟩) L) := by
    obtain ⟨a9, c9, hv9, hw9⟩ := hdr.own.form
    have ha9 : a9 = some ⟨g, 0, none⟩ := by injection hv9 with h1 h2 h3; exact h1.symm
    rw [ha9] at hw9
    exact hw9.nodes
  clear hdr hk1
  go_wp2_with fail
  refine (sShowTerm _ _ L c HN1.out).mono ?_
  rintro e w2 ⟨rfl, hb2⟩
  have HC2 : Hid (Cur w2 b a len cap) := cur_below HC1.out hb2
  have HK2 : Hid (Kept (fun k => k = b) w w2) := HK1.out.trans (Kept.ofBelow hb2)
  have hsz : (bs (showL L)).size ≤ 4000 := by
    rw [bs_size]
    cases hT : termOk L
    · rw [show_no hT]; simp
    · exact show_len hT
  clear hb2 HC1 HK1 HN1
  generalize bs (showL L) = S at hsz ⊢
  generalize hasB L = hb
  by_cases h0 : S.size = 0
  · have hz : ((S.size : Int) == 0) = true := by rw [h0]; rfl
    go_wp2
    go_ret
    exact ⟨⟨S, rfl, by omega⟩, HK2.out⟩
  · have hz : ((S.size : Int) == 0) = false := beq_eq_false_iff_ne.2 (by omega)
    go_wp2_with fail
    refine (belowAny _ b a len cap _ (by omega) (by omega) HC2.out).mono ?_
    rintro e w3 ⟨⟨x, rfl, hx0, hx1⟩, hc3, ho3⟩
    obtain ⟨i, rfl⟩ := Int.eq_ofNat_of_zero_le hx0
    have hil : i < S.size := by omega
    have HC3 : Hid (Cur w3 b a len cap) := hc3
    have HK3 : Hid (Kept (fun k => k = b) w w3) := HK2.out.trans (only_kept ho3)
    clear hc3 ho3 HC2 HK2 hx0
    go_wp2_with fail
    refine (below _ b a len cap 10 (by omega) (by omega) HC3.out).mono ?_
    rintro e w4 ⟨⟨d, rfl, hd0, hd1⟩, hc4, ho4⟩
    have HC4 : Hid (Cur w4 b a len cap) := hc4
    have HK4 : Hid (Kept (fun k => k = b) w w4) := HK3.out.trans (only_kept ho4)
    have hb4 : b < w4.heap.size := Dr0.Cur.lt hc4
    clear hc4 ho4 HC3 HK3
    have z1 : (S.extract 0 i).size ≤ 4000 := by rw [ByteArray.size_extract]; omega
    have z2 : (S.extract i S.size).size ≤ 4000 := by rw [ByteArray.size_extract]; omega
    have z3 : (S.extract (i + 1) S.size).size ≤ 4000 := by rw [ByteArray.size_extract]; omega
    have z4 : (S.extract 0 i).size + (S.extract i S.size).size ≤ 4000 := by rw [ByteArray.size_extract, ByteArray.size_extract]; omega
    have z5 : (S.extract 0 i).size + (S.extract (i + 1) S.size).size ≤ 4000 := by rw [ByteArray.size_extract, ByteArray.size_extract]; omega
    by_cases d0 : d = 0
    · subst d0
      go_wp2
      go_ret
      exact ⟨⟨_, rfl, by omega⟩, HK4.out⟩
    have q0 : (d == 0) = false := beq_eq_false_iff_ne.2 d0
    by_cases d1 : d = 1
    · subst d1
      clear d0 q0
      have HST : Hid (Strs (w4.drew.alloc (.cells (pick1.map fun x => .string (bs x)).toArray 9)) (some ⟨w4.drew.heap.size, 0, none⟩) pick1) := strs_lit w4.drew _ pick1 9 rfl (by decide)
      have hiz : (i : Int) ≤ (S.size : Int) := by omega
      have hi0 : (0 : Int) ≤ (i : Int) := by omega
      go_wp2_with fail
      refine wp_region_held_drew (S := fun w' => Cur w' b a len cap ∧ Kept (fun k => k = b) w4 w') (by kernel_rfl) ⟨cur_drew HC4.out, (Kept.refl _ _).drew⟩ (fun hHeld => ?_)
      refine wpAnyH_take (i := 0) (v := ?_) rfl (by kernel_rfl) (by kernel_rfl) (by kernel_rfl) (fun _ _ _ h => h) (Or.inl ⟨by rfl, ?_⟩) hHeld ?_
      rotate_left
      · intro v9 hS9
        try dsimp only at hS9
        go_simp
        try with_reducible rfl
      try simp only [Act.put, List.setIfInBounds_toArray, List.set_cons_zero, List.set_cons_succ, List.getElem_toArray, List.getElem_cons_zero]
      refine wpAnyH_take (i := 1) (v := ?_) rfl (by kernel_rfl) (by kernel_rfl) (by kernel_rfl) (fun _ _ _ h => h) (Or.inl ⟨by rfl, ?_⟩) hHeld ?_
      rotate_left
      · intro v9 hS9
        try dsimp only at hS9
        go_simp
        try with_reducible rfl
      try simp only [Act.put, List.setIfInBounds_toArray, List.set_cons_zero, List.set_cons_succ, List.getElem_toArray, List.getElem_cons_zero, List.getElem_cons_succ]
      refine wpAnyH_take (i := 2) (v := ?_) rfl (by kernel_rfl) (by kernel_rfl) (by kernel_rfl) (fun _ _ _ h => h) (Or.inl ⟨by rfl, ?_⟩) hHeld ?_
      rotate_left
      · intro v9 hS9
        try dsimp only at hS9
        go_simp
        try with_reducible rfl
      try simp only [Act.put, List.setIfInBounds_toArray, List.set_cons_zero, List.set_cons_succ, List.getElem_toArray, List.getElem_cons_zero, List.getElem_cons_succ]
      refine wpAnyH_take (i := 3) (v := ?_) rfl (by kernel_rfl) (by kernel_rfl) (by kernel_rfl) (fun _ _ _ h => h) (Or.inl ⟨by rfl, ?_⟩) hHeld ?_
      rotate_left
      · intro v9 hS9
        try dsimp only at hS9
        go_simp
        try with_reducible rfl
      try simp only [Act.put, List.setIfInBounds_toArray, List.set_cons_zero, List.set_cons_succ, List.getElem_toArray, List.getElem_cons_zero, List.getElem_cons_succ]
      refine wpAnyH_take (i := 7) (v := ?_) rfl (by kernel_rfl) (by kernel_rfl) (by kernel_rfl) (fun _ _ _ h => h) (Or.inl ⟨by rfl, ?_⟩) hHeld ?_
      rotate_left
      · intro v9 hS9
        try dsimp only at hS9
        go_simp
        try with_reducible rfl
      try simp only [Act.put, List.setIfInBounds_toArray, List.set_cons_zero, List.set_cons_succ, List.getElem_toArray, List.getElem_cons_zero, List.getElem_cons_succ]
      refine wpAnyH_take (i := 8) (v := ?_) rfl (by kernel_rfl) (by kernel_rfl) (by kernel_rfl) (fun _ _ _ h => h) (Or.inl ⟨by rfl, ?_⟩) hHeld ?_
      rotate_left
      · intro v9 hS9
        try dsimp only at hS9
        go_simp
        try with_reducible rfl
      try simp only [Act.put, List.setIfInBounds_toArray, List.set_cons_zero, List.set_cons_succ, List.getElem_toArray, List.getElem_cons_zero, List.getElem_cons_succ]
      refine wpAnyH_take (i := 9) (v := ?_) rfl (by kernel_rfl) (by kernel_rfl) (by kernel_rfl) (fun _ _ _ h => h) (Or.inl ⟨by rfl, ?_⟩) hHeld ?_
      rotate_left
      · intro v9 hS9
        try dsimp only at hS9
        go_simp
        try with_reducible rfl
      try simp only [Act.put, List.setIfInBounds_toArray, List.set_cons_zero, List.set_cons_succ, List.getElem_toArray, List.getElem_cons_zero, List.getElem_cons_succ]
      refine wpAnyH_ready (rs := [4]) (by kernel_rfl) (by simp) ?_
      refine (AllReadyH.cons rfl (fun K hK => ?_) AllReadyH.nil)
      ·
        go_simp
        refine hK.out _ _ (⟨cur_alloc hHeld.1 _, hHeld.2.alloc _⟩) (fun hNext => ?_)
        clear hK K hHeld
        have hHeld := hNext
        clear hNext
        refine wpAnyH_ready (rs := [5]) (by kernel_rfl) (by simp) ?_
        refine (AllReadyH.cons rfl (fun K hK => ?_) AllReadyH.nil)
        ·
          go_simp
          go_wp2_with (go_at_call 62; refine (pickStr _ b a len cap w4.drew.heap.size pick1 8 (by decide) (by decide) (by show ¬ w4.heap.size = b; omega) HST.out hHeld.1).mono ?_; rintro e w5 ⟨⟨x, hx, rfl⟩, hc5, ho5⟩)
          have hxs := pick1_size x hx
          have hxz : (bs x).size ≤ 20 := by rw [bs_size]; exact hxs
          have HS5 : Cur w5 b a len cap ∧ Kept (fun k => k = b) w4 w5 := ⟨hc5, hHeld.2.trans (only_kept ho5)⟩
          clear hc5 ho5 hx
          refine hK.out _ _ (HS5) (fun hNext => ?_)
          clear hK K hHeld
          have hHeld := hNext
          clear hNext
          refine wpAnyH_take (i := 6) (v := ?_) rfl (by kernel_rfl) (by kernel_rfl) (by kernel_rfl) (fun _ _ _ h => h) (Or.inl ⟨by rfl, ?_⟩) hHeld ?_
          rotate_left
          · intro v9 hS9
            try dsimp only at hS9
            go_simp
            first | (rw [if_neg (by omega)]; done) | (rw [if_neg (by omega)]; exact rfl)
          try simp only [Act.put, List.setIfInBounds_toArray, List.set_cons_zero, List.set_cons_succ, List.getElem_toArray, List.getElem_cons_zero, List.getElem_cons_succ]
          refine wpAnyH_take (i := 10) (v := ?_) rfl (by kernel_rfl) (by kernel_rfl) (by kernel_rfl) (fun _ _ _ h => h) (Or.inl ⟨by rfl, ?_⟩) hHeld ?_
          rotate_left
          · intro v9 hS9
            try dsimp only at hS9
            go_simp
            first | (rw [if_neg (by omega)]; done) | (rw [if_neg (by omega)]; exact rfl)
          try simp only [Act.put, List.setIfInBounds_toArray, List.set_cons_zero, List.set_cons_succ, List.getElem_toArray, List.getElem_cons_zero, List.getElem_cons_succ]
          refine wpAnyH_take (i := 11) (v := ?_) rfl (by kernel_rfl) (by kernel_rfl) (by kernel_rfl) (fun _ _ _ h => h) (Or.inl ⟨by rfl, ?_⟩) hHeld ?_
          rotate_left
          · intro v9 hS9
            try dsimp only at hS9
            go_simp
            try with_reducible rfl
          try simp only [Act.put, List.setIfInBounds_toArray, List.set_cons_zero, List.set_cons_succ, List.getElem_toArray, List.getElem_cons_zero, List.getElem_cons_succ]
          refine wpAnyH_done (by kernel_rfl) ?_ _
          have HK5 : Hid (Kept (fun k => k = b) w w5) := HK4.out.trans HS5.2
          go_wp2
          go_ret
          exact ⟨⟨_, rfl, by rw [ByteArray.size_append, ByteArray.size_append]; omega⟩, HK5.out⟩
    have q1 : (d == 1) = false := beq_eq_false_iff_ne.2 d1
    by_cases d2 : d = 2
    · subst d2
      clear d0 q0 d1 q1
      go_wp2
      go_quiet (fail)
      go_wp2
      go_ret
      exact ⟨⟨_, rfl, by rw [ByteArray.size_append]; omega⟩, HK4.out.drewN _⟩
    have q2 : (d == 2) = false := beq_eq_false_iff_ne.2 d2
    by_cases d3 : d = 3
    · subst d3
      clear d0 q0 d1 q1 d2 q2
      have hst : Strs (w4.alloc (.cells (pick3.map fun x => .string (bs x)).toArray 9)) (some ⟨w4.heap.size, 0, none⟩) pick3 := strs_lit w4 _ pick3 9 rfl (by decide)
      have HST : Hid (Strs (w4.alloc (.cells (pick3.map fun x => .string (bs x)).toArray 9)) (some ⟨w4.heap.size, 0, none⟩) pick3) := hst
      clear hst
      go_wp2_with fail
      refine (pickStr _ b a len cap w4.heap.size pick3 3 (by decide) (by decide) (by omega) HST.out (cur_alloc HC4.out _)).mono ?_
      rintro e w5 ⟨⟨x, hx, rfl⟩, hc5, ho5⟩
      have hxs := pick3_size x hx
      have hxz : (bs x).size ≤ 20 := by rw [bs_size]; exact hxs
      have HK5 : Hid (Kept (fun k => k = b) w w5) := (HK4.out.alloc _).trans (only_kept ho5)
      clear hc5 ho5 hx
      go_wp2
      go_ret
      exact ⟨⟨_, rfl, by rw [ByteArray.size_append]; omega⟩, HK5.out⟩
    have q3 : (d == 3) = false := beq_eq_false_iff_ne.2 d3
    by_cases d4 : d = 4
    · subst d4
      clear d0 q0 d1 q1 d2 q2 d3 q3
      have HST : Hid (Strs (w4.alloc (.cells (pick4.map fun x => .string (bs x)).toArray 9)) (some ⟨w4.heap.size, 0, none⟩) pick4) := strs_lit w4 _ pick4 9 rfl (by decide)
      go_wp2_with fail
      refine (pickStr _ b a len cap w4.heap.size pick4 18 (by decide) (by decide) (by omega) HST.out (cur_alloc HC4.out _)).mono ?_
      rintro e w5 ⟨⟨x, hx, rfl⟩, hc5, ho5⟩
      have hxs := pick4_size x hx
      have hxz : (bs x).size ≤ 20 := by rw [bs_size]; exact hxs
      have HK5 : Hid (Kept (fun k => k = b) w w5) := (HK4.out.alloc _).trans (only_kept ho5)
      clear hc5 ho5 hx
      go_wp2
      go_ret
      exact ⟨⟨_, rfl, by omega⟩, HK5.out⟩
    have q4 : (d == 4) = false := beq_eq_false_iff_ne.2 d4
    go_wp2
    go_ret
    exact ⟨⟨S, rfl, by omega⟩, HK4.out⟩

end Go.Proofs.YtmghkeahlhlclaaGreatDoor.Dx1

/- The draws of chapter 3: a list of nodes, a text. -/
namespace Go.Proofs.YtmghkeahlhlclaaGreatDoor.Dx2
open Go.RowKit
open Nd0 Dw0 Dw7 Dw8 Dx1
open Dr0 (Cur Only Bytes)
set_option linter.unusedVariables false

set_option maxHeartbeats 1000000 in
theorem drawShow (w : World) (a : Option Addr) (len cap : Nat) (hb : Bytes w a len) :
    Calls Tryz.prog 7 #[.slice a len cap] w (NPost w) := by
  have HB : Hid (Bytes w a len) := hb
  clear hb
  go_enter Tryz.func7, Tryz.ntmps7
  go_wp2_with fail
  refine (Dr4.new _ a len cap HB.out).mono ?_
  rintro e w1 ⟨rfl, hc, hb1⟩
  have HC : Hid (Cur w1 w.heap.size a len cap) := hc
  have HB1 : Hid (Below w.heap.size w w1) := hb1
  clear hc hb1
  go_wp2_with fail
  refine (anyNodes _ w.heap.size a len cap HC.out (low_of HB.out)).mono ?_
  rintro e w2 ⟨g, c, L, rfl, hn, hbg, hgs, hcu, hk, h1, h2, h3⟩
  have HP : Hid (Nodes w2 (some ⟨g, 0, none⟩) L ∧ Below w.heap.size w w2) := ⟨hn, HB1.out.trans (hk.below (fun k (e : k = w.heap.size) => by omega) HB1.out.size)⟩
  clear hn hcu hk hgs
  go_wp2
  go_ret
  exact ⟨g, c, L, rfl, HP.out.1, HP.out.2, h1, h2, h3⟩

/-- Some text that was drawn. -/
def SPost' (w : World) (e : Ending) (w' : World) : Prop := (∃ S : ByteArray, e = .returned (.string S) ∧ S.size ≤ 4100) ∧ Below w.heap.size w w'

set_option maxHeartbeats 1000000 in
theorem drawRead (w : World) (a : Option Addr) (len cap : Nat) (hb : Bytes w a len) :
    Calls Tryz.prog 16 #[.slice a len cap] w (SPost' w) := by
  have HB : Hid (Bytes w a len) := hb
  clear hb
  go_enter Tryz.func16, Tryz.ntmps16
  go_wp2_with fail
  refine (Dr4.new _ a len cap HB.out).mono ?_
  rintro e w1 ⟨rfl, hc, hb1⟩
  have HC : Hid (Cur w1 w.heap.size a len cap) := hc
  have HB1 : Hid (Below w.heap.size w w1) := hb1
  clear hc hb1
  go_wp2_with fail
  refine (textAny _ w.heap.size a len cap HC.out (low_of HB.out)).mono ?_
  rintro e w2 ⟨⟨S, rfl, hs⟩, hk⟩
  have HP : Hid (Below w.heap.size w w2) := HB1.out.trans (hk.below (fun k (e : k = w.heap.size) => by omega) HB1.out.size)
  clear hk
  go_wp2
  go_ret
  exact ⟨⟨S, rfl, hs⟩, HP.out⟩

end Go.Proofs.YtmghkeahlhlclaaGreatDoor.Dx2
