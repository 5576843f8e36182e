import Derived.Test.YtnkicbopebgppabP20
import Derived.Test.YtnkicbopebgppabP22
import Derived.Test.YtnkicbopebgppabP21
import Derived.Test.YtnkicbopebgppabRows
import Derived.ProofKit
import Derived.OpenShut
import Derived.ShutString
import Derived.ChangeOld
import Derived.Deep.Slices
/-! A script is played. -/
namespace Go.Proofs.Ytnkicbopebgppab
open Go.RowKit Fl

/-- What a step comes to. -/
def StepIs : Prop := ∀ (own : Nat → Nat) (a hd m : Nat) (c : Cf) (o : OpV) (w : World), WoAt own w a hd m c → m < 16777216 → OpOk o →
  Calls Try.prog 11 #[.pointer (some ⟨a, 0, none⟩), .agg #[.int .i64 o.kd, .int .i64 o.A, .int .i64 o.B, .int .i64 o.C, .string o.s]] w fun e w' => e = .returned (.tuple #[]) ∧ WoPostC own w w' a hd (m + 1)

/-- The law's cells at the start. -/
def startF (hd : Nat) (k : ByteArray) (i : Nat) : Value := #[.int .i64 hd, .bool false, .bool false, .int .i64 4, .int .i64 60, .int .i64 20, .int .i64 4000, .int .i64 60, .int .i64 500, .int .i64 10000, .int .i64 1, .bool true, .string k, .pointer none, .int .i64 0, .int .i64 0, .int .i64 0, .int .i64 0, .int .i64 0, .int .i64 0, .int .i64 0, .int .i64 0, .bool false, .string ⟨#[]⟩, .slice none 0 0, .slice none 0 0, .int .i64 0, .bool false, .int .i64 0, .slice none 0 0, .slice none 0 0, .slice none 0 0, .slice none 0 0, .slice none 0 0, .slice none 0 0, .slice none 0 0, .slice none 0 0][i]?.getD (.bool false)

theorem start_old (hd : Nat) (k : ByteArray) : ∀ i, i < 13 → startF hd k i = woF hd (plainCf k) 0 (.slice none 0 0) (.slice none 0 0) (fun _ => 9) (Bo.begun (plainCf k)) i := by
  intro i hi
  match i, hi with
  | 0, _ => rfl
  | 1, _ => rfl
  | 2, _ => rfl
  | 3, _ => rfl
  | 4, _ => rfl
  | 5, _ => rfl
  | 6, _ => rfl
  | 7, _ => rfl
  | 8, _ => rfl
  | 9, _ => rfl
  | 10, _ => rfl
  | 11, _ => rfl
  | 12, _ => rfl
  | n + 13, h => exact absurd h (by omega)

theorem start_row (hd : Nat) (k : ByteArray) (w1 : World) (o : Obj) : Row (upd (fun _ => 0) (w1.heap.size + 1) 2) ((w1.alloc o).alloc (Obj.cells #[.int .i64 hd, .bool false, .bool false, .int .i64 4, .int .i64 60, .int .i64 20, .int .i64 4000, .int .i64 60, .int .i64 500, .int .i64 10000, .int .i64 1, .bool true, .string k, .pointer none, .int .i64 0, .int .i64 0, .int .i64 0, .int .i64 0, .int .i64 0, .int .i64 0, .int .i64 0, .int .i64 0, .bool false, .string ⟨#[]⟩, .slice none 0 0, .slice none 0 0, .int .i64 0, .bool false, .int .i64 0, .slice none 0 0, .slice none 0 0, .slice none 0 0, .slice none 0 0, .slice none 0 0, .slice none 0 0, .slice none 0 0, .slice none 0 0] 38)) 2 (w1.heap.size + 1) 38 37 (startF hd k) ∧ Junk (upd (fun _ => 0) (w1.heap.size + 1) 2) ((w1.alloc o).alloc (Obj.cells #[.int .i64 hd, .bool false, .bool false, .int .i64 4, .int .i64 60, .int .i64 20, .int .i64 4000, .int .i64 60, .int .i64 500, .int .i64 10000, .int .i64 1, .bool true, .string k, .pointer none, .int .i64 0, .int .i64 0, .int .i64 0, .int .i64 0, .int .i64 0, .int .i64 0, .int .i64 0, .int .i64 0, .bool false, .string ⟨#[]⟩, .slice none 0 0, .slice none 0 0, .int .i64 0, .bool false, .int .i64 0, .slice none 0 0, .slice none 0 0, .slice none 0 0, .slice none 0 0, .slice none 0 0, .slice none 0 0, .slice none 0 0, .slice none 0 0] 38)) ∧ Fr WTag (fun _ => 0) (upd (fun _ => 0) (w1.heap.size + 1) 2) w1 ((w1.alloc o).alloc (Obj.cells #[.int .i64 hd, .bool false, .bool false, .int .i64 4, .int .i64 60, .int .i64 20, .int .i64 4000, .int .i64 60, .int .i64 500, .int .i64 10000, .int .i64 1, .bool true, .string k, .pointer none, .int .i64 0, .int .i64 0, .int .i64 0, .int .i64 0, .int .i64 0, .int .i64 0, .int .i64 0, .int .i64 0, .bool false, .string ⟨#[]⟩, .slice none 0 0, .slice none 0 0, .int .i64 0, .bool false, .int .i64 0, .slice none 0 0, .slice none 0 0, .slice none 0 0, .slice none 0 0, .slice none 0 0, .slice none 0 0, .slice none 0 0, .slice none 0 0] 38)) := by
  have hs : (w1.alloc o).heap.size = w1.heap.size + 1 := by simp
  have hF1 : Fr WTag (fun _ => 0) (fun _ => 0) w1 (w1.alloc o) := (Fr.refl _ _ _).alloc o
  have hF2 := Fr.allocTag WTag (fun _ => 0) (w1.alloc o) (Obj.cells #[.int .i64 hd, .bool false, .bool false, .int .i64 4, .int .i64 60, .int .i64 20, .int .i64 4000, .int .i64 60, .int .i64 500, .int .i64 10000, .int .i64 1, .bool true, .string k, .pointer none, .int .i64 0, .int .i64 0, .int .i64 0, .int .i64 0, .int .i64 0, .int .i64 0, .int .i64 0, .int .i64 0, .bool false, .string ⟨#[]⟩, .slice none 0 0, .slice none 0 0, .int .i64 0, .bool false, .int .i64 0, .slice none 0 0, .slice none 0 0, .slice none 0 0, .slice none 0 0, .slice none 0 0, .slice none 0 0, .slice none 0 0, .slice none 0 0] 38) 2
  have hr := World.rowIs_alloc (w1.alloc o) #[Value.int .i64 hd, .bool false, .bool false, .int .i64 4, .int .i64 60, .int .i64 20, .int .i64 4000, .int .i64 60, .int .i64 500, .int .i64 10000, .int .i64 1, .bool true, .string k, .pointer none, .int .i64 0, .int .i64 0, .int .i64 0, .int .i64 0, .int .i64 0, .int .i64 0, .int .i64 0, .int .i64 0, .bool false, .string ⟨#[]⟩, .slice none 0 0, .slice none 0 0, .int .i64 0, .bool false, .int .i64 0, .slice none 0 0, .slice none 0 0, .slice none 0 0, .slice none 0 0, .slice none 0 0, .slice none 0 0, .slice none 0 0, .slice none 0 0] 38 (startF hd k) (fun i hi => by
    unfold startF
    rw [Array.getElem?_eq_getElem hi]
    rfl)
  rw [hs] at hF2 hr
  exact ⟨⟨upd_same _ _ _, hr⟩, (hF1.trans hF2).junk (fun _ _ => rfl), hF1.trans hF2⟩

theorem below0 {own' : Nat → Nat} {w w' : World} (h : Fr WTag (fun _ => 0) own' w w') : Below w.heap.size w w' :=
  ⟨h.os, h.tape, h.output, h.size, fun k hk => h.block k hk (fun e => e rfl)⟩

theorem WoAt.c12 {own : Nat → Nat} {w : World} {a hd n : Nat} {c : Cf} (h : WoAt own w a hd n c) : w.cell? ⟨a, 1, none⟩ = some (.bool false) ∧ w.cell? ⟨a, 2, none⟩ = some (.bool false) := by
  obtain ⟨ax, p, b, h⟩ := h
  obtain ⟨vF, vH, g, hb⟩ := h.bo
  exact ⟨hb.cell 1 (by omega), hb.cell 2 (by omega)⟩

set_option maxRecDepth 100000 in
set_option maxHeartbeats 6400000 in
theorem upto_any (hS : StepIs) (hd : Nat) (vb : Option Addr) (n cap : Nat) (S : Nat → OpV) (w : World) (h : ScIs w vb n cap S) (hn : n ≤ 1048576) :
    Calls Try.prog 8 #[.slice vb n cap, .int .i64 hd] w fun e w' => e = .returned (.int .i64 (-1)) ∧ Below w.heap.size w w' := by
  have HS : Bx _ := ⟨hS⟩
  have H : Bx _ := ⟨h⟩
  have hle := h.le
  have hmx := h.mx
  clear h hS
  go_enter Try.func8, Try.ntmps8
  go_wp2_with fail
  refine (plain_any _).mono ?_
  rintro e w1 ⟨⟨k, hk, rfl⟩, hb1⟩
  have HB1 : Bx _ := ⟨hb1⟩
  clear hb1
  have HR : Bx _ := ⟨start_row hd k w1 (Obj.cells #[.int .i64 4, .int .i64 60, .int .i64 20, .int .i64 4000, .int .i64 60, .int .i64 500, .int .i64 10000, .int .i64 1, .bool true, .string k] 29)⟩
  have HO : Bx _ := ⟨start_old hd k⟩
  have HC : Bx _ := ⟨plainCf_ok k hk⟩
  simp only [Cf.val, plainCf]
  go_upto_region 3 with fail
  obtain ⟨a, Ha⟩ : ∃ a, Bx (w1.heap.size + 1 = a) := ⟨_, ⟨rfl⟩⟩
  rw [Ha.out] at HR ⊢
  have HF : Bx (Fr WTag (fun _ => 0) (upd (fun _ => 0) a 2) w ((w1.alloc (Obj.cells #[.int .i64 4, .int .i64 60, .int .i64 20, .int .i64 4000, .int .i64 60, .int .i64 500, .int .i64 10000, .int .i64 1, .bool true, .string k] 29)).alloc (Obj.cells #[.int .i64 hd, .bool false, .bool false, .int .i64 4, .int .i64 60, .int .i64 20, .int .i64 4000, .int .i64 60, .int .i64 500, .int .i64 10000, .int .i64 1, .bool true, .string k, .pointer none, .int .i64 0, .int .i64 0, .int .i64 0, .int .i64 0, .int .i64 0, .int .i64 0, .int .i64 0, .int .i64 0, .bool false, .string ⟨#[]⟩, .slice none 0 0, .slice none 0 0, .int .i64 0, .bool false, .int .i64 0, .slice none 0 0, .slice none 0 0, .slice none 0 0, .slice none 0 0, .slice none 0 0, .slice none 0 0, .slice none 0 0, .slice none 0 0] 38))) := ⟨(Fr.below HB1.out).trans HR.out.2.2⟩
  generalize (w1.alloc (Obj.cells #[.int .i64 4, .int .i64 60, .int .i64 20, .int .i64 4000, .int .i64 60, .int .i64 500, .int .i64 10000, .int .i64 1, .bool true, .string k] 29)).alloc (Obj.cells #[.int .i64 hd, .bool false, .bool false, .int .i64 4, .int .i64 60, .int .i64 20, .int .i64 4000, .int .i64 60, .int .i64 500, .int .i64 10000, .int .i64 1, .bool true, .string k, .pointer none, .int .i64 0, .int .i64 0, .int .i64 0, .int .i64 0, .int .i64 0, .int .i64 0, .int .i64 0, .int .i64 0, .bool false, .string ⟨#[]⟩, .slice none 0 0, .slice none 0 0, .int .i64 0, .bool false, .int .i64 0, .slice none 0 0, .slice none 0 0, .slice none 0 0, .slice none 0 0, .slice none 0 0, .slice none 0 0, .slice none 0 0, .slice none 0 0] 38) = w2 at *
  generalize upd (fun _ => 0) a 2 = own2 at *
  go_wp2_with fail
  refine (begin_any own2 a hd 0 (plainCf k) _ w2 HR.out.1 HO.out HR.out.2.1 HC.out).mono ?_
  rintro e w3 ⟨rfl, hp⟩
  obtain ⟨own3, hw3, hf3⟩ := hp.ex
  have HW : Bx (∃ own' c, WoAt own' w3 a hd 0 c ∧ Fr WTag (fun _ => 0) own' w w3) := ⟨own3, _, hw3, HF.out.trans hf3⟩
  have c1 := hw3.c12.1
  clear hp hw3 hf3 HF HR HO HC HB1 hk
  go_wp2_with fail
  clear c1
  go_loopg [7] n (fun r v7 wr => ∃ i : Nat, v7 = .int .i64 i ∧ i + r = n ∧ ∃ own' c, WoAt own' wr a hd i c ∧ Fr WTag (fun _ => 0) own' w wr)
  case atStart => exact ⟨0, rfl, by omega, HW.out⟩
  case round =>
    clear HW
    obtain ⟨i, rfl, hi, own', c, hw, hf⟩ := hrel
    have c2 := hw.c12.2
    have HF : Bx _ := ⟨hf⟩
    have HWo : Bx _ := ⟨hw⟩
    clear hw hf
    by_cases hil : i < n
    · obtain ⟨r', rfl⟩ : ∃ r', gk = r' + 1 := ⟨gk - 1, by omega⟩
      have i1 : (i : Int) < n := by omega
      have hsc := H.out.below (below0 HF.out)
      obtain ⟨g, off, hvb, hlt, hc⟩ := hsc.at_ (by omega)
      subst hvb
      obtain ⟨o, Ho⟩ : ∃ o, Bx (S i = o) := ⟨_, ⟨rfl⟩⟩
      have hoc := hc i hil
      have hok := hsc.ok i hil
      rw [Ho.out] at hoc hok
      have o0 := hoc.o0
      have o1 := hoc.o1
      have o2 := hoc.o2
      have o3 := hoc.o3
      have o4 := hoc.o4
      have HST : Bx _ := ⟨HS.out own' a hd i c o _ HWo.out (by omega) hok⟩
      clear hoc hok hc hsc hlt
      go_wp2_with fail
      refine HST.out.mono ?_
      rintro e w4 ⟨rfl, hp⟩
      obtain ⟨c4, hp4⟩ := hp.ex
      obtain ⟨own4, hw4, hf4⟩ := hp4.ex
      have HN : Bx (∃ own' c, WoAt own' w4 a hd (i + 1) c ∧ Fr WTag (fun _ => 0) own' w w4) := ⟨own4, c4, hw4, HF.out.trans hf4⟩
      have c1 := hw4.c12.1
      clear hp hp4 hw4 hf4 HST o0 o1 o2 o3 o4 c2
      go_wp2_with fail
      go_roundg r'
      case rel => exact ⟨i + 1, by go_num, by omega, HN.out⟩
      case measure => omega
    · have i1 : ¬ (i : Int) < n := by omega
      have i2 : decide ((i : Int) < n) = false := decide_eq_false i1
      have HZ : Bx _ := ⟨below0 HF.out⟩
      go_wp2_with fail
      go_ret
      exact ⟨rfl, HZ.out⟩

end Go.Proofs.Ytnkicbopebgppab

/-! Whatever the step; whatever the script. -/
namespace Go.Proofs.Ytnkicbopebgppab
open Go.RowKit Fl

theorem honest_is : HonestIs := fun s t w hs hc ht => honest_any s t w hs hc ht

theorem step_is : StepIs := by
  intro own a hd m c o w h hm hok
  have hH := honest_is
  obtain ⟨kd, A, B, C, s⟩ := o
  have a1 := hok.a1; have a2 := hok.a2; have b1 := hok.b1; have b2 := hok.b2
  by_cases e1 : kd = 1
  · subst e1; exact step_num own a hd m c A B C s w h a1 a2 b1 b2
  by_cases e2 : kd = 2
  · subst e2; exact step_key own a hd m c A B C s w h
  by_cases e3 : kd = 3
  · subst e3; exact step_port own a hd m c A B C s w h
  by_cases e4 : kd = 4
  · subst e4; exact step_arrive own a hd m c A B C s w h hm hH
  by_cases e5 : kd = 5
  · subst e5; exact step_time own a hd m c A B C s w h hm hH
  by_cases e6 : kd = 6
  · subst e6; exact step_set own a hd m c A B C s w h hm hH
  by_cases e7 : kd = 7
  · subst e7; exact step_reset own a hd m c A B C s w h hm hH
  by_cases e8 : kd = 8
  · subst e8; exact step_flow own a hd m c A B C s w h a1 a2 b1 b2 hm hH
  by_cases e9 : kd = 9
  · subst e9; exact step_rest own a hd m c A B C s w h hm hH
  exact step_none own a hd m c kd A B C s w h (beq_false_of_ne e1) (beq_false_of_ne e2) (beq_false_of_ne e3) (beq_false_of_ne e4) (beq_false_of_ne e5) (beq_false_of_ne e6) (beq_false_of_ne e7) (beq_false_of_ne e8) (beq_false_of_ne e9)

theorem plays_any (hd : Nat) (vb : Option Addr) (n cap : Nat) (S : Nat → OpV) (w : World) (h : ScIs w vb n cap S) :
    Calls Try.prog 6 #[.slice vb n cap, .int .i64 hd] w fun e w' => e = .returned (.bool true) ∧ Below w.heap.size w w' := by
  have H : Bx _ := ⟨h⟩
  clear h
  go_enter Try.func6, Try.ntmps6
  go_wp2_with fail
  refine (small_any vb n cap S _ H.out).mono ?_
  rintro e w1 ⟨h1 | ⟨h1, h2⟩, hw⟩
  · subst h1 hw
    go_wp2_with fail
    go_ret
    exact ⟨rfl, Below.refl _ _⟩
  · subst h1 hw
    go_wp2_with fail
    refine (upto_any step_is hd vb n cap S _ H.out h2).mono ?_
    rintro e w2 ⟨rfl, hb⟩
    go_wp2_with fail
    go_ret
    exact ⟨rfl, hb⟩

end Go.Proofs.Ytnkicbopebgppab

/-! The script as it came in. -/
namespace Go.Proofs.Ytnkicbopebgppab
open Go.ChangeShapes Go.WideShapes Go.ChangeAt Go.RowKit Fl

theorem opCells : Try.prog.cellsOf 27 = 5 := by kernel_rfl
theorem intCells : Try.prog.cellsOf 3 = 1 := by kernel_rfl
theorem textCells : Try.prog.cellsOf 9 = 1 := by kernel_rfl
theorem rowsOwn : ownKnob Try.prog.godebug = none := by kernel_rfl
theorem rowsLaid : laidOutB Try.prog = true := by kernel_rfl

theorem lt_of_cell {w : World} {g o : Nat} {v : Value} (h : w.cell? ⟨g, o, none⟩ = some v) : g < w.heap.size := by
  unfold World.cell? at h
  by_cases hg : g < w.heap.size
  · exact hg
  · simp [Array.getElem?_eq_none (Nat.le_of_not_lt hg)] at h

theorem opBytes : Try.prog.bytesOf 27 = 48 := by kernel_rfl

theorem five_of {α : Type} {l : List α} (h : l.length = 5) : ∃ a b c d e, l = [a, b, c, d, e] := by
  match l, h with
  | [a, b, c, d, e], _ => exact ⟨a, b, c, d, e, rfl⟩

theorem mem_weightsAll {H : Type} {P : Program} {e : TypeId} {n : Nat} {d : DataW H} (hn : n ∈ d.weights P e) : ∀ {l : List (DataW H)}, d ∈ l → n ∈ DataW.weightsAll P e l
  | [], h => by cases h
  | x :: l, h => by
    simp only [DataW.weightsAll, List.mem_append]
    rcases List.mem_cons.1 h with rfl | h
    · exact .inl hn
    · exact .inr (mem_weightsAll hn h)

/-- What a step of the script reads as. -/
def opD {H : Type} (o : OpV) : DataW H := .agg [.lit (.int .i64 o.kd), .lit (.int .i64 o.A), .lit (.int .i64 o.B), .lit (.int .i64 o.C), .lit (.string o.s.data.toList)]

theorem op_open {H : Type} {enc : TypeId × Value → H} {w : World} {base : Nat} {sp : Nat → Bool} {held : Bool} {n : Nat} {cs : List Value} {x : DataW H × List MemPlace} (h : DataW.trod enc Try.prog w base sp held n 27 cs = some x) :
    ∃ o : OpV, cs = [.int .i64 o.kd, .int .i64 o.A, .int .i64 o.B, .int .i64 o.C, .string o.s] ∧ x.1 = opD o ∧ (o.s.size ≤ 140737488355328 → OpOk o) := by
  obtain ⟨xs, m, _, hx, hl, hlen, hf⟩ := DataW.trod_struct Try.underlying27 h
  rw [opCells] at hl
  obtain ⟨c0, c1, c2, c3, c4, rfl⟩ := five_of hl
  obtain ⟨y0, y1, y2, y3, y4, rfl⟩ := five_of (l := xs) hlen
  have h0 : DataW.trod enc Try.prog w base sp held m 3 [c0] = some y0 := (congrArg (fun k => DataW.trod enc Try.prog w base sp held m 3 (List.take k [c0, c1, c2, c3, c4])) intCells).symm.trans (hf 0 _ rfl)
  have h1 : DataW.trod enc Try.prog w base sp held m 3 [c1] = some y1 := (congrArg (fun k => DataW.trod enc Try.prog w base sp held m 3 (List.take k [c1, c2, c3, c4])) intCells).symm.trans (hf 1 _ rfl)
  have h2 : DataW.trod enc Try.prog w base sp held m 3 [c2] = some y2 := (congrArg (fun k => DataW.trod enc Try.prog w base sp held m 3 (List.take k [c2, c3, c4])) intCells).symm.trans (hf 2 _ rfl)
  have h3 : DataW.trod enc Try.prog w base sp held m 3 [c3] = some y3 := (congrArg (fun k => DataW.trod enc Try.prog w base sp held m 3 (List.take k [c3, c4])) intCells).symm.trans (hf 3 _ rfl)
  have h4 : DataW.trod enc Try.prog w base sp held m 9 [c4] = some y4 := (congrArg (fun k => DataW.trod enc Try.prog w base sp held m 9 (List.take k [c4])) textCells).symm.trans (hf 4 _ rfl)
  obtain ⟨k, ek, yk, wk⟩ := DataW.trod_int Try.underlying3 h0
  obtain ⟨a, ea, ya, wa⟩ := DataW.trod_int Try.underlying3 h1
  obtain ⟨b, eb, yb, wb⟩ := DataW.trod_int Try.underlying3 h2
  obtain ⟨c, ec, yc, wc⟩ := DataW.trod_int Try.underlying3 h3
  obtain ⟨s, es, ys, _⟩ := DataW.trod_string Try.underlying9 h4
  injection ek with ek _
  injection ea with ea _
  injection eb with eb _
  injection ec with ec _
  injection es with es _
  subst ek ea eb ec es yk ya yb yc ys
  have bd : ∀ z : Int, (Lit.int .i64 z).wf = true → -9223372036854775808 ≤ z ∧ z ≤ 9223372036854775807 := fun z hz => by simpa [Lit.wf, IntKind.min, IntKind.max, IntKind.signed, IntKind.bits] using hz
  exact ⟨⟨k, a, b, c, s⟩, rfl, by rw [hx]; rfl, fun ws => ⟨(bd k wk).1, (bd k wk).2, (bd a wa).1, (bd a wa).2, (bd b wb).1, (bd b wb).2, ws⟩⟩

theorem opD_weight {H : Type} (o : OpV) : o.s.size ∈ (opD (H := H) o).weights Try.prog 27 := by
  unfold opD
  rw [DataW.weights, Try.underlying27]
  simp [DataW.weightsEach, DataW.weights]

set_option maxRecDepth 100000 in
theorem script_open {H : Type} {enc : TypeId × Value → H} {W : World} {a0 : Option Addr} {len cap : Nat} {d : DataW H} {p : List MemPlace} (h : DataW.Trod enc Try.prog W 0 (fun _ => true) true 22 (.slice a0 len cap) d p)
    (hz : (d.weights Try.prog 22).all (· ≤ reachBytes) = true) : ∃ S, ScIs W a0 len cap S := by
  obtain ⟨fuel, hf⟩ := h
  rcases Go.Deep.open_slice Try.underlying22 hf with ⟨hcs, _⟩ | ⟨x, l, c, m, n, D, Pl, hcs, _, hl, hm, hmm, hd, hx⟩
  · simp [Value.cells] at hcs
    obtain ⟨rfl, rfl, rfl⟩ := hcs
    exact ⟨fun _ => default, by omega, by omega, fun e => by omega, fun i hi => by omega⟩
  · simp [Value.cells] at hcs
    obtain ⟨rfl, rfl, rfl⟩ := hcs
    rw [if_pos rfl] at hmm
    subst hmm
    rw [opCells] at hx
    injection hd with hd _
    subst hd
    have hw := List.all_eq_true.1 hz
    have hw0 : ∀ k ∈ DataW.weights Try.prog 22 (DataW.slice ((List.range len).map D) ((List.range (m - len)).map fun j => D (len + j))), k ≤ 140737488351232 := fun k hk => by
      have h1 : k ≤ reachBytes := of_decide_eq_true (hw k hk)
      unfold reachBytes at h1
      exact h1
    rw [DataW.weights, Try.underlying22] at hw0
    have hcap : m * 48 ≤ 140737488351232 := by
      have := hw0 _ (List.mem_cons_self)
      rw [opBytes, List.length_map, List.length_map, List.length_range, List.length_range] at this
      omega
    have key : ∀ i, i < m → ∃ o : OpV, (∀ j, j < 5 → W.cell? (x.add (i * 5 + j)) = [Value.int .i64 o.kd, .int .i64 o.A, .int .i64 o.B, .int .i64 o.C, .string o.s][j]?) ∧ D i = opD o ∧ (o.s.size ≤ 140737488355328 → OpOk o) := by
      intro i hi
      obtain ⟨cs', h1, h2⟩ := hx i hi
      obtain ⟨o, ho, hD, hok⟩ := op_open h2
      obtain ⟨_, _, h3⟩ := World.cells?_some h1
      refine ⟨o, fun j hj => ?_, hD, hok⟩
      rw [← Go.Deep.add_add, h3 j hj, ho]
    have HK : ∃ S : Nat → OpV, ∀ i, i < m → (∀ j, j < 5 → W.cell? (x.add (i * 5 + j)) = [Value.int .i64 (S i).kd, .int .i64 (S i).A, .int .i64 (S i).B, .int .i64 (S i).C, .string (S i).s][j]?) ∧ D i = opD (S i) ∧ ((S i).s.size ≤ 140737488355328 → OpOk (S i)) := Go.Deep.choose_lt key
    obtain ⟨S, hS⟩ := HK
    refine ⟨S, hl, by omega, fun hn => ?_, fun i hi => (hS i (by omega)).2.2 ?_⟩
    · obtain ⟨g, off, spot⟩ := x
      have hc0 := (hS 0 (by omega)).1 0 (by omega)
      have hspot : spot = none := by simpa [Addr.add] using World.cell?_spot hc0
      subst hspot
      have C : ∀ i j, i < len → j < 5 → W.cell? ⟨g, off + i * 5 + j, none⟩ = [Value.int .i64 (S i).kd, .int .i64 (S i).A, .int .i64 (S i).B, .int .i64 (S i).C, .string (S i).s][j]? := by
        intro i j hi hj
        have := (hS i (by omega)).1 j hj
        rw [Addr.add_lit, ← Nat.add_assoc] at this
        exact this
      refine ⟨g, off, rfl, ?_, fun i hi => ⟨C i 0 hi (by omega), C i 1 hi (by omega), C i 2 hi (by omega), C i 3 hi (by omega), C i 4 hi (by omega)⟩⟩
      exact lt_of_cell (C 0 0 hn (by omega))
    · have hmem : D i ∈ (List.range len).map D := List.mem_map.2 ⟨i, List.mem_range.2 hi, rfl⟩
      have h1 : (S i).s.size ∈ (D i).weights Try.prog 27 := by rw [(hS i (by omega)).2.1]; exact opD_weight _
      have h2 := hw0 _ (List.mem_cons_of_mem _ (List.mem_append_left _ (mem_weightsAll h1 hmem)))
      omega

end Go.Proofs.Ytnkicbopebgppab
