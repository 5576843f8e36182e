import Derived.Test.YtnkicbopebgppaaP15
/-! How the port stands behind a step. -/
namespace Go.Proofs.Ytnkicbopebgppaa
open Go.RowKit Fl

/-- A number is laid at the end of a list. -/
theorem wpList_push_int (w : World) {ops : Array Oper} {rest : List Oper} {o : Oper} {a : Act} {Q : Exit → Act → World → Prop} (hgd : o.guard = none) (s x : Operand)
    (hop : o.op = Op.call { callee := Callee.builtin Builtin.append, args := #[s, x], argTypes := #[34, 34] })
    (own : Nat → Nat) (tg : Nat) (v : Value) (l : List Nat) (n : Nat) (hs : a.eval s = v) (hsl : Sl anyC own w tg 1 v l.length (natCells l)) (hl : l.length ≤ 1000) (g c : Nat) (hx : a.eval x = .slice (some ⟨g, 0, none⟩) 1 c) (h0 : w.cell? ⟨g, 0, none⟩ = some (.int .i64 n))
    (h : ∀ v' w' own', Sl anyC own' w' tg 1 v' (l ++ [n]).length (natCells (l ++ [n])) → Fr (fun x => x = tg) own own' w w' → (∃ b k, v' = .slice (some b) (l.length + 1) k) → wpList Try.prog ops Q rest (a.put o.dst v') w') : wpList Try.prog ops Q (o :: rest) a w := by
  obtain ⟨i0, hi, hz0, hz1, hz2⟩ := info_parts infoInt
  refine wpList_append_sl _ hgd _ _ 34 hop 3 i0 _ 1 8 Try.underlying34 hi hz0 hz1 hz2 rfl (by decide) anyC own tg v l.length (natCells l) hs hsl ⟨g, 0, none⟩ 1 c [.int .i64 n] hx rfl (fun j u hj => by
    match j, hj with
    | 0, hj => simp at hj; subst hj; rw [Addr.add_lit]; exact h0) (fun u hu => by simp at hu; subst hu; rfl) (fun _ _ _ => trivial) (fun _ _ _ => trivial) (by decide) (by unfold maxLen; omega) (by omega) ?_
  intro v' w' own' hsl' hfr hv
  exact h v' w' own' (by rw [natCells_snoc, List.length_append]; exact hsl') hfr hv

/-- Numbers that do not go round. -/
structure StB (b : Bo) : Prop where
  here : b.here.length ≤ 1000
  f : b.f.length ≤ 1099511627776
  ar : ∀ i, i < b.on.buckets → b.size i ≤ 1099511627776 ∧ b.left i ≤ 1099511627776 ∧ b.sent i ≤ 1099511627776
  pr : ∀ m, (b.pairs m).on = true → -1099511627776 ≤ (b.pairs m).least ∧ (b.pairs m).least ≤ 1099511627776 ∧ -1099511627776 ≤ (b.pairs m).most ∧ (b.pairs m).most ≤ 1099511627776

theorem PtAt.fr {own own' : Nat → Nat} {w w' : World} {ax : Nat} {p : Pt} (h : PtAt own w 100 ax p) (hb : p.c.buckets ≤ 16) (k : Fr BTag own own' w w') : PtAt own' w' 100 ax p := by
  obtain ⟨g, fP, vF, vO, fB, vq, h⟩ := h
  exact ⟨g, fP, vF, vO, fB, vq, h.fr k (fun t h1 h2 => by show ¬ (2 ≤ t ∧ t < 20); omega) hb⟩

theorem BoIs.frX {own own' : Nat → Nat} {w w' : World} {a hd : Nat} {c : Cf} {ax : Nat} {vF vH : Value} {g : Nat → Nat} {b : Bo} {TT : Nat → Prop} (h : BoIs own w a hd c ax vF vH g b) (k : Fr TT own own' w w') (h2 : ¬ TT 2) (h10 : ¬ TT 10) (h8 : ¬ TT (g 8)) (hT : ∀ t, 12 ≤ t → t < 20 → ¬ TT t) : BoIs own' w' a hd c ax vF vH g b :=
  ⟨h.row.fr k h2, h.f.fr k h10, h.here.fr k h8, h.la.fr k (hT _ (by omega) (by omega)), h.se.fr k (hT _ (by omega) (by omega)), h.tu.fr k (hT _ (by omega) (by omega)), h.us.fr k (hT _ (by omega) (by omega)), h.si.fr k (hT _ (by omega) (by omega)), h.le.fr k (hT _ (by omega) (by omega)), h.ov.fr k (hT _ (by omega) (by omega)), h.pa.fr k (hT _ (by omega) (by omega)), h.th⟩

/-- Another list of those that wait. -/
theorem BoIs.hereSet {own : Nat → Nat} {w : World} {a hd : Nat} {c : Cf} {ax : Nat} {vF vH : Value} {g : Nat → Nat} {b : Bo} (h : BoIs own w a hd c ax vF vH g b) (t2 : Nat) (ht2 : t2 = 9 ∨ t2 = 11) (v : Value) (L : List Nat) (hs : Sl anyC own w t2 1 v L.length (natCells L)) :
    BoIs own (w.setCell ⟨a, 25, none⟩ v) a hd c ax vF v (fun k => if k = 8 then t2 else g k) { b with here := L } ∧ Fr BTag own own w (w.setCell ⟨a, 25, none⟩ v) := by
  have k : Fr (fun t => t = 2) own own w (w.setCell ⟨a, 25, none⟩ v) := (Fr.refl _ own w).setCell a _ _ h.row.tag
  refine ⟨⟨(h.row.set 25 v).congr (fun i hi => ?_), h.f.fr k (by show ¬ 10 = 2; omega), hs.fr k (by show ¬ t2 = 2; omega), h.la.fr k (by show ¬ 12 = 2; omega), h.se.fr k (by show ¬ 13 = 2; omega), h.tu.fr k (by show ¬ 14 = 2; omega), h.us.fr k (by show ¬ 15 = 2; omega), h.si.fr k (by show ¬ 16 = 2; omega), h.le.fr k (by show ¬ 17 = 2; omega), h.ov.fr k (by show ¬ 18 = 2; omega), h.pa.fr k (by show ¬ 19 = 2; omega), ht2⟩, k.mono (fun t e => by rw [e]; exact ⟨by omega, by omega⟩)⟩
  revert i
  exact all37 rfl rfl rfl rfl rfl rfl rfl rfl rfl rfl rfl rfl rfl rfl rfl rfl rfl rfl rfl rfl rfl rfl rfl rfl rfl rfl rfl rfl rfl rfl rfl rfl rfl rfl rfl rfl rfl

/-- Where the walk over those that wait stands. -/
structure HeR (own : Nat → Nat) (w wr : World) (a hd : Nat) (c : Cf) (ax : Nat) (vF vH : Value) (g : Nat → Nat) (t2 : Nat) (b : Bo) (own1 : Nat → Nat) (v : Value) (L : List Nat) : Prop where
  bo : BoIs own1 wr a hd c ax vF vH g b
  fr : Fr BTag own own1 w wr
  sl : Sl anyC own1 wr t2 1 v L.length (natCells L)

def notGone (b : Bo) (id : Nat) : Bool := !(b.fr id).gone

theorem filter_take (l : List Nat) (P : Nat → Bool) (i : Nat) (h : i < l.length) : (l.take (i + 1)).filter P = if P l[i] = true then (l.take i).filter P ++ [l[i]] else (l.take i).filter P := by
  rw [List.take_add_one, List.getElem?_eq_getElem h, List.filter_append]
  by_cases hp : P l[i] = true
  · rw [if_pos hp]; simp [hp]
  · rw [if_neg hp]; simp [hp]

def Bo.idlesTo (b : Bo) (k : Nat) : Bo := { b with used := fun i => if i < k then false else b.used i, turn := fun i => if i < k then 0 else b.turn i }

theorem idlesTo_zero (b : Bo) : b.idlesTo 0 = b := by
  have h1 : (fun i => if i < 0 then false else b.used i) = b.used := by funext i; rw [if_neg (by omega)]
  have h2 : (fun i => if i < 0 then 0 else b.turn i) = b.turn := by funext i; rw [if_neg (by omega)]
  unfold Bo.idlesTo
  rw [h1, h2]
theorem idlesTo_step (b : Bo) (k : Nat) : ({ b.idlesTo k with used := setAt (b.idlesTo k).used k false, turn := setAt (b.idlesTo k).turn k 0 } : Bo) = b.idlesTo (k + 1) := by
  have h1 : setAt (b.idlesTo k).used k false = fun i => if i < k + 1 then false else b.used i := by
    funext i
    by_cases e : i = k
    · rw [e, setAt_same, if_pos (by omega)]
    · rw [setAt_other _ _ _ _ e]
      show (if i < k then false else b.used i) = _
      by_cases e2 : i < k
      · rw [if_pos e2, if_pos (by omega)]
      · rw [if_neg e2, if_neg (by omega)]
  have h2 : setAt (b.idlesTo k).turn k 0 = fun i => if i < k + 1 then 0 else b.turn i := by
    funext i
    by_cases e : i = k
    · rw [e, setAt_same, if_pos (by omega)]
    · rw [setAt_other _ _ _ _ e]
      show (if i < k then 0 else b.turn i) = _
      by_cases e2 : i < k
      · rw [if_pos e2, if_pos (by omega)]
      · rw [if_neg e2, if_neg (by omega)]
  rw [h1, h2]
  rfl
theorem BoIs.idled {own : Nat → Nat} {w : World} {a hd : Nat} {c : Cf} {ax : Nat} {vF vH : Value} {g : Nat → Nat} {b : Bo} (h : BoIs own w a hd c ax vF vH g (b.idlesTo b.on.buckets)) : BoIs own w a hd c ax vF vH g (b.idles false) :=
  h.congr rfl rfl rfl rfl rfl rfl (fun _ _ => rfl) (fun _ _ => rfl) (fun _ hi => (if_pos hi).symm) (fun _ hi => (if_pos hi).symm) (fun _ _ => rfl) (fun _ _ => rfl) (fun _ _ => rfl) (fun _ _ => rfl)

theorem idles_same (b : Bo) (u : Bool) : (b.rests.idles u).on = b.on ∧ (b.rests.idles u).size = b.size ∧ (b.rests.idles u).left = b.left ∧ (b.rests.idles u).sent = b.sent ∧ (b.rests.idles u).over = b.over ∧ (b.rests.idles u).pairs = b.pairs ∧ (b.rests.idles u).fairs.pairs = b.fairs.pairs := by
  unfold Bo.idles
  split <;> exact ⟨rfl, rfl, rfl, rfl, rfl, rfl, rfl⟩

set_option maxRecDepth 100000 in
set_option maxHeartbeats 12800000 in
theorem stands_any (own : Nat → Nat) (a hd : Nat) (c : Cf) (ax : Nat) (p : Pt) (b : Bo) (w : World) (h : BoAt own w a hd c ax b) (hp : PtAt own w 100 ax p) (hok : p.ok) (hon : b.on = p.c) (hS : ∀ hd, StOk hd p b) (hB : StB b) :
    Calls Try.prog 40 #[.pointer (some ⟨a, 0, none⟩)] w fun e w' => e = .returned (.tuple #[]) ∧ ∃ own', BoAt own' w' a hd c ax (b.stands p.busy) ∧ Fr BTag own own' w w' := by
  obtain ⟨vF, vH, g, h⟩ := h
  obtain ⟨t2, ht2, hT2⟩ : ∃ t2, (t2 = 9 ∨ t2 = 11) ∧ t2 ≠ g 8 := by
    rcases h.th with e | e
    · exact ⟨11, .inr rfl, by omega⟩
    · exact ⟨9, .inl rfl, by omega⟩
  have c13 : w.cell? ⟨a, 13, none⟩ = some (.pointer (some ⟨ax, 0, none⟩)) := h.cell 13 (by omega)
  have HNW : Bx _ := ⟨pnow_any own 100 ax p.counts p w hp⟩
  have hb1 := hB.here
  have HP : Bx _ := ⟨hp⟩
  have HS : Bx _ := ⟨hS⟩
  have HB : Bx _ := ⟨hB⟩
  have HOK : Bx _ := ⟨hok⟩
  have HON : Bx _ := ⟨hon⟩
  have H : Bx _ := ⟨h⟩
  clear h hp hS hB hok hon
  go_enter Try.func40, Try.ntmps40
  go_wp2_with fail
  refine HNW.out.mono ?_
  rintro r w1 ⟨rfl, hbw⟩
  have HR : Bx (HeR own w w1 a hd c ax vF vH g t2 b own (.slice none 0 0) ([] : List Nat)) := ⟨⟨H.out.below hbw, Fr.below hbw, Sl.nil _ _ _ _ _⟩⟩
  clear hbw c13 HNW
  go_wp2_with fail
  go_loopg [4, 5, 6] b.here.length (fun r v4 v5 _ wr => ∃ (i : Nat) (own1 : Nat → Nat), v5 = .int .i64 i ∧ i + r = b.here.length ∧ HeR own w wr a hd c ax vF vH g t2 b own1 v4 ((b.here.take i).filter (notGone b)))
  case atStart => exact ⟨0, own, rfl, by omega, HR.out⟩
  case round =>
    clear HR
    obtain ⟨i, own1, rfl, hi, hr⟩ := hrel
    have c25 : wr.cell? ⟨a, 25, none⟩ = some vH := hr.bo.cell 25 (by omega)
    obtain ⟨vb, vc, hv⟩ : ∃ vb k, vH = .slice vb b.here.length k := by
      obtain ⟨_, h2⟩ := hr.bo.here
      rcases h2 with ⟨hv, hn⟩ | ⟨g, off, cap, hv, _⟩
      · exact ⟨none, 0, by rw [hv, hn]⟩
      · exact ⟨some ⟨g, off, none⟩, cap, hv⟩
    obtain ⟨ub, uc, hu⟩ : ∃ ub k, u4 = .slice ub ((b.here.take i).filter (notGone b)).length k := by
      obtain ⟨_, h2⟩ := hr.sl
      rcases h2 with ⟨hv, hn⟩ | ⟨g, off, cap, hv, _⟩
      · exact ⟨none, 0, by rw [hv, hn]⟩
      · exact ⟨some ⟨g, off, none⟩, cap, hv⟩
    by_cases hlt : i < b.here.length
    · obtain ⟨r', rfl⟩ : ∃ r', gk = r' + 1 := ⟨gk - 1, by omega⟩
      have i1 : (i : Int) < b.here.length := by omega
      obtain ⟨id, Hid⟩ : ∃ id, Bx (b.here[i] = id) := ⟨_, ⟨rfl⟩⟩
      have hidl : id < b.f.length := by rw [← Hid.out]; exact (HS.out 0).lt _ (List.getElem_mem hlt)
      have i2 : (id : Int) < b.f.length := by omega
      have hsoon := (HS.out 64).soon rfl id (by rw [← Hid.out]; exact List.getElem_mem hlt)
      have hspar := (HS.out 16).sparse rfl id (by rw [← Hid.out]; exact List.getElem_mem hlt)
      have hft := filter_take b.here (notGone b) i hlt
      rw [Hid.out] at hft
      obtain ⟨gf, of, cap, hvF⟩ := Sl.some hr.bo.f (by omega)
      obtain ⟨gh, oh, hcp, hvH⟩ := Sl.some hr.bo.here (by omega)
      subst hvF hvH
      obtain ⟨_, _, hcapF, hcf, _⟩ := Sl.at hr.bo.f
      obtain ⟨_, _, hcapH, hch, _⟩ := Sl.at hr.bo.here
      have c24 : wr.cell? ⟨a, 24, none⟩ = some (.slice (some ⟨gf, of, none⟩) b.f.length cap) := hr.bo.cell 24 (by omega)
      have hh : wr.cell? ⟨gh, oh + i, none⟩ = some (.int .i64 id) := hch i _ (by
        show (b.here.map (fun (n : Nat) => Value.int .i64 (n : Int)))[i]? = _
        rw [List.getElem?_map, List.getElem?_eq_getElem hlt, Hid.out]; rfl)
      obtain ⟨F, HF⟩ : ∃ F, Bx (b.fr id = F) := ⟨_, ⟨rfl⟩⟩
      have FF : ∀ j u, j < 6 → F.cells[j]? = some u → wr.cell? ⟨gf, of + (id * 6 + j), none⟩ = some u := fun j u hj hu => hcf _ u ((fqCells_get b.f id j hidl hj).trans (by show (b.fr id).cells[j]? = _; rw [HF.out]; exact hu))
      have f3 : wr.cell? ⟨gf, of + id * 6 + 3, none⟩ = some (.bool F.gone) := FF 3 _ (by omega) rfl
      have f4 : wr.cell? ⟨gf, of + id * 6 + 4, none⟩ = some (.int .i64 F.first) := FF 4 _ (by omega) rfl
      have f5 : wr.cell? ⟨gf, of + id * 6 + 5, none⟩ = some (.int .i64 F.soon) := FF 5 _ (by omega) rfl
      rw [HF.out] at hsoon hspar
      have hng : notGone b id = !F.gone := by unfold notGone; rw [HF.out]
      rw [hng] at hft
      obtain ⟨Ln, HLn⟩ : ∃ Ln : Nat, Bx (((b.here.take i).filter (notGone b)).length = Ln) := ⟨_, ⟨rfl⟩⟩
      have hL : ((b.here.take i).filter (notGone b)).length ≤ 1000 := Nat.le_trans (List.length_filter_le _ _) (Nat.le_trans (by rw [List.length_take]; omega) hb1)
      rw [HLn.out] at hu
      subst hu
      have HR1 : Bx _ := ⟨hr⟩
      have HFTB : Bx _ := ⟨hft⟩
      have HSO : Bx _ := ⟨hsoon⟩
      have HSP : Bx _ := ⟨hspar⟩
      clear hr hcf hch FF hft hng hsoon hspar hv
      go_wp2_with fail
      go_quiet (fail)
      have HR2 : Bx (HeR own w (wr.drewN nq) a hd c ax (.slice (some ⟨gf, of, none⟩) b.f.length cap) (.slice (some ⟨gh, oh, none⟩) b.here.length hcp) g t2 b own1 (.slice ub Ln uc) ((b.here.take i).filter (notGone b))) := ⟨HR1.out.bo.below ((Below.refl _ _).drewN nq), HR1.out.fr.trans (Fr.below ((Below.refl _ _).drewN nq)), HR1.out.sl.below ((Below.refl _ _).drewN nq)⟩
      have Y : ∀ (q : Addr), (wr.drewN nq).cell? q = wr.cell? q := fun _ => rfl
      rw [← Y] at c25 c24 hh f3 f4 f5
      clear HR1 Y
      generalize wr.drewN nq = w2 at *
      cases hg : F.gone with
      | true =>
        rw [hg] at f3
        have HFT : Bx ((b.here.take (i + 1)).filter (notGone b) = (b.here.take i).filter (notGone b)) := ⟨by rw [HFTB.out, hg]; rfl⟩
        go_wp2_with fail
        go_roundg r'
        case rel => exact ⟨i + 1, own1, by go_num, by omega, by rw [HFT.out]; exact HR2.out⟩
        case measure => omega
      | false =>
        rw [hg] at f3
        have HFT : Bx ((b.here.take (i + 1)).filter (notGone b) = (b.here.take i).filter (notGone b) ++ [id]) := ⟨by rw [HFTB.out, hg]; rfl⟩
        have hs := HSO.out hg
        have hq := HSP.out hg
        by_cases hs1 : F.soon < 0
        · by_cases hq1 : F.first < 0
          · clear hs hq
            go_wp2_with fail
            refine (is_yes a _ _).mono ?_
            rintro r wq ⟨rfl, hq⟩
            subst hq
            go_wp2_with fail
            refine (is_yes a _ _).mono ?_
            rintro r wq2 ⟨rfl, hq2⟩
            subst hq2
            go_wp2_with (at_builtin; refine wpList_push_int _ rfl _ _ rfl own1 t2 (.slice ub Ln uc) ((b.here.take i).filter (notGone b)) id rfl (HR2.out.sl.below ((Below.refl _ _).alloc (Nat.le_refl _) _)) hL wq2.heap.size 1 rfl (by go_simp) ?_)
            intro v5 w5 own5 hsl5 hfr5 b5 k5 hv5
            subst hv5
            have hcomp : Fr (fun t => t = t2) own1 own5 wq2 w5 := (Fr.below ((Below.refl _ _).alloc (Nat.le_refl _) _)).trans hfr5
            have HRn : Bx (HeR own w w5 a hd c ax (.slice (some ⟨gf, of, none⟩) b.f.length cap) (.slice (some ⟨gh, oh, none⟩) b.here.length hcp) g t2 b own5 (.slice (some b5) (((b.here.take i).filter (notGone b)).length + 1) k5) ((b.here.take (i + 1)).filter (notGone b))) := ⟨HR2.out.bo.frX hcomp (by show ¬ 2 = t2; omega) (by show ¬ 10 = t2; omega) (by show ¬ g 8 = t2; omega) (fun t h1 h2 => by show ¬ t = t2; omega), HR2.out.fr.trans (hcomp.mono (fun t e => by rw [e]; exact ⟨by omega, by omega⟩)), by rw [HFT.out, List.length_append]; exact hsl5⟩
            clear hcomp hsl5 hfr5
            go_wp2_with fail
            go_roundg r'
            case rel => exact ⟨i + 1, own5, by go_num, by omega, HRn.out⟩
            case measure => omega
          · have hq2 : (p.now : Int) ≤ F.first := hq.resolve_left hq1
            have hq3 : decide (F.first < 0) = false := decide_eq_false hq1
            clear hs hq
            go_wp2_with fail
            refine (is_yes a _ _).mono ?_
            rintro r wq ⟨rfl, hq⟩
            subst hq
            go_wp2_with fail
            refine (is_yes a _ _).mono ?_
            rintro r wq2 ⟨rfl, hq2⟩
            subst hq2
            go_wp2_with (at_builtin; refine wpList_push_int _ rfl _ _ rfl own1 t2 (.slice ub Ln uc) ((b.here.take i).filter (notGone b)) id rfl (HR2.out.sl.below ((Below.refl _ _).alloc (Nat.le_refl _) _)) hL wq2.heap.size 1 rfl (by go_simp) ?_)
            intro v5 w5 own5 hsl5 hfr5 b5 k5 hv5
            subst hv5
            have hcomp : Fr (fun t => t = t2) own1 own5 wq2 w5 := (Fr.below ((Below.refl _ _).alloc (Nat.le_refl _) _)).trans hfr5
            have HRn : Bx (HeR own w w5 a hd c ax (.slice (some ⟨gf, of, none⟩) b.f.length cap) (.slice (some ⟨gh, oh, none⟩) b.here.length hcp) g t2 b own5 (.slice (some b5) (((b.here.take i).filter (notGone b)).length + 1) k5) ((b.here.take (i + 1)).filter (notGone b))) := ⟨HR2.out.bo.frX hcomp (by show ¬ 2 = t2; omega) (by show ¬ 10 = t2; omega) (by show ¬ g 8 = t2; omega) (fun t h1 h2 => by show ¬ t = t2; omega), HR2.out.fr.trans (hcomp.mono (fun t e => by rw [e]; exact ⟨by omega, by omega⟩)), by rw [HFT.out, List.length_append]; exact hsl5⟩
            clear hcomp hsl5 hfr5
            go_wp2_with fail
            go_roundg r'
            case rel => exact ⟨i + 1, own5, by go_num, by omega, HRn.out⟩
            case measure => omega
        · have hs2 : (p.now : Int) ≤ F.soon := hs.resolve_left hs1
          have hs3 : decide (F.soon < 0) = false := decide_eq_false hs1
          by_cases hq1 : F.first < 0
          · clear hs hq
            go_wp2_with fail
            refine (is_yes a _ _).mono ?_
            rintro r wq ⟨rfl, hq⟩
            subst hq
            go_wp2_with fail
            refine (is_yes a _ _).mono ?_
            rintro r wq2 ⟨rfl, hq2⟩
            subst hq2
            go_wp2_with (at_builtin; refine wpList_push_int _ rfl _ _ rfl own1 t2 (.slice ub Ln uc) ((b.here.take i).filter (notGone b)) id rfl (HR2.out.sl.below ((Below.refl _ _).alloc (Nat.le_refl _) _)) hL wq2.heap.size 1 rfl (by go_simp) ?_)
            intro v5 w5 own5 hsl5 hfr5 b5 k5 hv5
            subst hv5
            have hcomp : Fr (fun t => t = t2) own1 own5 wq2 w5 := (Fr.below ((Below.refl _ _).alloc (Nat.le_refl _) _)).trans hfr5
            have HRn : Bx (HeR own w w5 a hd c ax (.slice (some ⟨gf, of, none⟩) b.f.length cap) (.slice (some ⟨gh, oh, none⟩) b.here.length hcp) g t2 b own5 (.slice (some b5) (((b.here.take i).filter (notGone b)).length + 1) k5) ((b.here.take (i + 1)).filter (notGone b))) := ⟨HR2.out.bo.frX hcomp (by show ¬ 2 = t2; omega) (by show ¬ 10 = t2; omega) (by show ¬ g 8 = t2; omega) (fun t h1 h2 => by show ¬ t = t2; omega), HR2.out.fr.trans (hcomp.mono (fun t e => by rw [e]; exact ⟨by omega, by omega⟩)), by rw [HFT.out, List.length_append]; exact hsl5⟩
            clear hcomp hsl5 hfr5
            go_wp2_with fail
            go_roundg r'
            case rel => exact ⟨i + 1, own5, by go_num, by omega, HRn.out⟩
            case measure => omega
          · have hq2 : (p.now : Int) ≤ F.first := hq.resolve_left hq1
            have hq3 : decide (F.first < 0) = false := decide_eq_false hq1
            clear hs hq
            go_wp2_with fail
            refine (is_yes a _ _).mono ?_
            rintro r wq ⟨rfl, hq⟩
            subst hq
            go_wp2_with fail
            refine (is_yes a _ _).mono ?_
            rintro r wq2 ⟨rfl, hq2⟩
            subst hq2
            go_wp2_with (at_builtin; refine wpList_push_int _ rfl _ _ rfl own1 t2 (.slice ub Ln uc) ((b.here.take i).filter (notGone b)) id rfl (HR2.out.sl.below ((Below.refl _ _).alloc (Nat.le_refl _) _)) hL wq2.heap.size 1 rfl (by go_simp) ?_)
            intro v5 w5 own5 hsl5 hfr5 b5 k5 hv5
            subst hv5
            have hcomp : Fr (fun t => t = t2) own1 own5 wq2 w5 := (Fr.below ((Below.refl _ _).alloc (Nat.le_refl _) _)).trans hfr5
            have HRn : Bx (HeR own w w5 a hd c ax (.slice (some ⟨gf, of, none⟩) b.f.length cap) (.slice (some ⟨gh, oh, none⟩) b.here.length hcp) g t2 b own5 (.slice (some b5) (((b.here.take i).filter (notGone b)).length + 1) k5) ((b.here.take (i + 1)).filter (notGone b))) := ⟨HR2.out.bo.frX hcomp (by show ¬ 2 = t2; omega) (by show ¬ 10 = t2; omega) (by show ¬ g 8 = t2; omega) (fun t h1 h2 => by show ¬ t = t2; omega), HR2.out.fr.trans (hcomp.mono (fun t e => by rw [e]; exact ⟨by omega, by omega⟩)), by rw [HFT.out, List.length_append]; exact hsl5⟩
            clear hcomp hsl5 hfr5
            go_wp2_with fail
            go_roundg r'
            case rel => exact ⟨i + 1, own5, by go_num, by omega, HRn.out⟩
            case measure => omega
    · have i1 : ¬ (i : Int) < b.here.length := by omega
      have hii : i = b.here.length := by omega
      have hL0 : (b.here.take i).filter (notGone b) = b.rests.here := by rw [hii, List.take_length]; rfl
      rw [hL0] at hu hr
      subst hv hu
      have za := hr.bo.frozen
      obtain ⟨N1, N2⟩ := hr.bo.hereSet t2 ht2 _ _ hr.sl
      have hfin : Fr BTag own own1 w (wr.setCell ⟨a, 25, none⟩ (.slice ub b.rests.here.length uc)) := hr.fr.trans N2
      obtain ⟨b1, Hb1⟩ : ∃ b1 : Bo, Bx (b1 = b.rests) := ⟨_, ⟨rfl⟩⟩
      have HN : Bx (BoIs own1 (wr.setCell ⟨a, 25, none⟩ (.slice ub b.rests.here.length uc)) a hd c ax vF (.slice ub b.rests.here.length uc) (fun k => if k = 8 then t2 else g k) b1 ∧ Fr BTag own own1 w (wr.setCell ⟨a, 25, none⟩ (.slice ub b.rests.here.length uc))) := ⟨by rw [Hb1.out]; exact N1, hfin⟩
      have H13 : wr.cell? ⟨a, 13, none⟩ = some (.pointer (some ⟨ax, 0, none⟩)) := hr.bo.cell 13 (by omega)
      clear N1 N2 hfin hr hii hL0
      obtain ⟨g1, Hg1⟩ : ∃ g1 : Nat → Nat, Bx ((fun k => if k = 8 then t2 else g k) = g1) := ⟨_, ⟨rfl⟩⟩
      rw [Hg1.out] at HN
      have hb16 := HOK.out.c.b2
      have HPW := PtAt.fr HP.out hb16 HN.out.2
      have hfr65 := HOK.out.fr
      have HHE : Bx _ := ⟨pheld_any own1 100 ax p.counts p _ HPW hb16 (by have : framesTo p.bk p.c.buckets ≤ 65 := hfr65; omega) (fun i hi x hx => by have h1 := ((HOK.out.bk i).one x hx).2; have h2 := HOK.out.c.l2; omega)⟩
      have HPX : Bx _ := ⟨HPW⟩
      clear HPW
      have c13 : wr.cell? ⟨a, 13, none⟩ = some (.pointer (some ⟨ax, 0, none⟩)) := H13
      go_wp2_with fail
      refine HHE.out.mono ?_
      rintro e w7 ⟨rfl, hw7⟩
      subst hw7
      clear c25 c13 za HHE
      generalize wr.setCell ⟨a, 25, none⟩ (.slice ub b.rests.here.length uc) = w6 at *
      have hon1 : b1.on = p.c := by rw [Hb1.out]; exact HON.out
      have hcnt : b.rests.here.length = p.frames := (HS.out 0).cnt
      have HLEN : Bx _ := ⟨hcnt⟩
      have hnn : b1.on.buckets = p.c.buckets := by rw [hon1]
      have hn16 : b1.on.buckets ≤ 16 := by rw [hnn]; exact hb16
      have HON1 : Bx _ := ⟨hon1⟩
      have HNN : Bx _ := ⟨hnn⟩
      clear hcnt hon1 hnn
      go_wp2_with fail
      go_loopg [9, 10, 11, 12, 13] b1.on.buckets (fun r v9 v10 v11 _ _ wx => ∃ k : Nat, v11 = .int .i64 k ∧ k + r = b1.on.buckets ∧ v9 = .int .i64 (bytesTo p.bk k : Nat) ∧ v10 = .int .i64 (framesTo p.bk k : Nat) ∧ wx = w6)
      case atStart => exact ⟨0, rfl, by omega, rfl, rfl, rfl⟩
      case round =>
        obtain ⟨k, rfl, hk, rfl, rfl, hwx⟩ := hrel
        subst hwx
        have c14 : wr.cell? ⟨a, 14, none⟩ = some (.int .i64 b1.on.buckets) := HN.out.1.cell 14 (by omega)
        have hfk : framesTo p.bk k ≤ 65 := by
          have h0 : ∀ n m, n ≤ m → framesTo p.bk n ≤ framesTo p.bk m := by
            intro n m hnm
            induction m with
            | zero => obtain rfl : n = 0 := by omega
                      exact Nat.le_refl _
            | succ m ih =>
              by_cases e : n = m + 1
              · rw [e]; exact Nat.le_refl _
              · exact Nat.le_trans (ih (by omega)) (Nat.le_add_right _ _)
          exact Nat.le_trans (h0 k p.c.buckets (by have := HNN.out; omega)) hfr65
        have hbk : bytesTo p.bk k ≤ 200 * framesTo p.bk k := by
          clear hfk c14 hk
          induction k with
          | zero => exact Nat.le_refl _
          | succ k ih =>
            have h1 := qBytes_le (p.bk k).q (fun x hx => by have h1 := ((HOK.out.bk k).one x hx).2; have h2 := HOK.out.c.l2; omega)
            show bytesTo p.bk k + qBytes (p.bk k).q ≤ 200 * (framesTo p.bk k + (p.bk k).q.length)
            omega
        by_cases hkl : k < b1.on.buckets
        · obtain ⟨r', rfl⟩ : ∃ r', gk = r' + 1 := ⟨gk - 1, by omega⟩
          have i2 : (k : Int) < b1.on.buckets := by omega
          have hkp : k < p.c.buckets := by rw [← HNN.out]; exact hkl
          have c13 : wr.cell? ⟨a, 13, none⟩ = some (.pointer (some ⟨ax, 0, none⟩)) := HN.out.1.cell 13 (by omega)
          have c33 : wr.cell? ⟨a, 33, none⟩ = some (.slice (some ⟨g1 4, 0, none⟩) b1.on.buckets b1.on.buckets) := HN.out.1.cell 33 (by omega)
          have si : wr.cell? ⟨g1 4, k, none⟩ = some (.int .i64 (b1.size k : Nat)) := HN.out.1.si.row.cell hkl
          have hsz : b1.size k = qBytes (p.bk k).q := by rw [Hb1.out]; exact (HS.out 0).size k hkp
          rw [hsz] at si
          obtain ⟨Q, HQ⟩ : ∃ Q : Nat, Bx (qBytes (p.bk k).q = Q) := ⟨_, ⟨rfl⟩⟩
          obtain ⟨L, HLq⟩ : ∃ L : Nat, Bx ((p.bk k).q.length = L) := ⟨_, ⟨rfl⟩⟩
          have HBL := pbacklog_any own1 100 ax p.counts p k wr HPX.out hkp
          have q1 : Q ≤ 13000 := by
            have h1 := qBytes_le (p.bk k).q (fun x hx => by have h1 := ((HOK.out.bk k).one x hx).2; have h2 := HOK.out.c.l2; omega)
            have h2 := framesTo_le p.bk p.c.buckets k hkp
            have h3 : framesTo p.bk p.c.buckets ≤ 65 := hfr65
            rw [← HQ.out]; omega
          have q2 : L ≤ 65 := by
            have h2 := framesTo_le p.bk p.c.buckets k hkp
            have h3 : framesTo p.bk p.c.buckets ≤ 65 := hfr65
            rw [← HLq.out]; omega
          have e1 : bytesTo p.bk (k + 1) = bytesTo p.bk k + Q := by rw [← HQ.out]; rfl
          have e2 : framesTo p.bk (k + 1) = framesTo p.bk k + L := by rw [← HLq.out]; rfl
          have HE1 : Bx _ := ⟨e1⟩
          have HE2 : Bx _ := ⟨e2⟩
          rw [HQ.out] at si
          rw [HQ.out, HLq.out] at HBL
          have HBX : Bx _ := ⟨HBL⟩
          clear HBL hsz e1 e2
          obtain ⟨BY, HBY⟩ : ∃ BY : Nat, Bx (bytesTo p.bk k = BY) := ⟨_, ⟨rfl⟩⟩
          obtain ⟨FR, HFR⟩ : ∃ FR : Nat, Bx (framesTo p.bk k = FR) := ⟨_, ⟨rfl⟩⟩
          rw [HBY.out] at hbk HE1 ⊢
          rw [HFR.out] at hfk hbk HE2 ⊢
          go_wp2_with fail
          refine HBX.out.mono ?_
          rintro e w8 ⟨rfl, hw8⟩
          subst hw8
          go_wp2_with fail
          refine (is_yes a _ _).mono ?_
          rintro r w8 ⟨rfl, hw8⟩
          subst hw8
          go_wp2_with fail
          go_roundg r'
          case rel => exact ⟨k + 1, by go_num, by omega, by rw [HE1.out]; go_num, by rw [HE2.out]; go_num, rfl⟩
          case measure => omega
        · have i2 : ¬ (k : Int) < b1.on.buckets := by omega
          have hkn : k = p.c.buckets := by have := HNN.out; omega
          obtain ⟨FR, HFR⟩ : ∃ FR : Nat, Bx (p.frames = FR) := ⟨_, ⟨rfl⟩⟩
          obtain ⟨ME, HME⟩ : ∃ ME : Nat, Bx (p.memory = ME) := ⟨_, ⟨rfl⟩⟩
          have e1 : framesTo p.bk k = FR := by rw [hkn]; exact HFR.out
          have e2 : bytesTo p.bk k + 64 * FR = ME := by rw [← HME.out, ← HFR.out, hkn]; rfl
          rw [e1] at hbk hfk ⊢
          obtain ⟨BY, HBY⟩ : ∃ BY : Nat, Bx (bytesTo p.bk k = BY) := ⟨_, ⟨rfl⟩⟩
          rw [HBY.out] at e2 hbk ⊢
          have hl2 := (HS.out 2).lim rfl
          rw [HFR.out, HME.out] at hl2
          have hbz := (HS.out 0).busy
          have hnz := (HS.out 0).none
          rw [HFR.out] at hnz
          have c16 : wr.cell? ⟨a, 16, none⟩ = some (.int .i64 b1.on.packets) := HN.out.1.cell 16 (by omega)
          have c17 : wr.cell? ⟨a, 17, none⟩ = some (.int .i64 b1.on.memory) := HN.out.1.cell 17 (by omega)
          have c26 : wr.cell? ⟨a, 26, none⟩ = some (.int .i64 b1.till) := HN.out.1.cell 26 (by omega)
          rw [HON1.out] at c16 c17
          have htl : b1.till = b.till := by rw [Hb1.out]; rfl
          rw [htl] at c26
          rw [HFR.out, HME.out]
          rw [HLEN.out, HFR.out]
          have e3 : (BY : Int) + 64 * (FR : Int) = (ME : Nat) := by omega
          have j1 : (FR : Int) ≤ p.c.packets := by omega
          have j2 : (ME : Int) ≤ p.c.memory := by omega
          have HBZ : Bx _ := ⟨hbz⟩
          have HNZ : Bx _ := ⟨hnz⟩
          clear hbz hnz hl2 e1 hkn htl
          go_wp2_with fail
          refine (is_yes a _ _).mono ?_
          rintro r wy ⟨rfl, hwy⟩
          subst hwy
          go_wp2_with fail
          refine (is_yes a _ _).mono ?_
          rintro r wy ⟨rfl, hwy⟩
          subst hwy
          cases hbu : p.busy with
          | true =>
            have k1 : p.now < b.till := by have h := HBZ.out; rw [hbu] at h; exact of_decide_eq_true h.symm
            have k2 : (p.now : Int) < b.till := by omega
            go_wp2_with fail
            refine (is_yes a _ _).mono ?_
            rintro r wz ⟨rfl, hwz⟩
            subst hwz
            have HB2 : Bx (BoAt own1 wz a hd c ax (b.rests.idles true) ∧ Fr BTag own own1 w wz) := ⟨⟨_, _, _, by have h := HN.out.1; rw [Hb1.out] at h; exact h⟩, HN.out.2⟩
            clear c16 c17 c26 c14
            have hsame := idles_same b true
            have hb2B : BoAt own1 wz a hd c ax (b.rests.idles true) := HB2.out.1
            have hon2 : (b.rests.idles true).on = p.c := by rw [hsame.1]; exact HON.out
            have HOV : Bx _ := ⟨overs_any own1 a hd c ax (b.rests.idles true) wz hb2B (by rw [hon2]; exact hb16) (fun i hi => by rw [hsame.2.1, hsame.2.2.1]; have h1 := HB.out.ar i (by rw [HON.out]; rw [hon2] at hi; exact hi); exact ⟨h1.1, h1.2.1⟩) (by rw [hon2]; intro i hi ho j hj; rw [hsame.2.1, hsame.2.2.1]; rw [hsame.2.2.2.2.1] at ho; exact (HS.out 2).over rfl i hi ho j hj)⟩
            clear hb2B hsame hon2
            go_wp2_with fail
            refine HOV.out.mono ?_
            rintro e wo ⟨rfl, hbo⟩
            have HB3 : Bx (BoAt own1 wo a hd c ax (b.rests.idles true) ∧ Fr BTag own own1 w wo) := ⟨HB2.out.1.below hbo, HB2.out.2.trans (Fr.below hbo)⟩
            clear hbo HB2 HOV
            have hsame := idles_same b true
            have hon2 : (b.rests.idles true).on = p.c := by rw [hsame.1]; exact HON.out
            have HFA : Bx _ := ⟨fair_any own1 a hd c ax (b.rests.idles true) wo HB3.out.1 (by rw [hon2]; exact hb16) (by rw [hon2]; exact HOK.out.c) (fun i hi => by rw [hsame.2.1, hsame.2.2.2.1]; have h1 := HB.out.ar i (by rw [HON.out]; rw [hon2] at hi; exact hi); exact ⟨h1.1, h1.2.2⟩) (fun m hm => by rw [hsame.2.2.2.2.2.1] at hm ⊢; exact HB.out.pr m hm) (fun i m hmi hi ho => by rw [hon2] at hi ho ⊢; rw [hsame.2.2.2.2.2.2] at ho ⊢; exact (HS.out 32).fair rfl i m hmi hi ho)⟩
            clear hsame hon2
            go_wp2_with fail
            refine HFA.out.mono ?_
            rintro e wf ⟨rfl, hbf, hff⟩
            have HZ : Bx (BoAt own1 wf a hd c ax (b.stands true) ∧ Fr BTag own own1 w wf) := ⟨hbf, HB3.out.2.trans hff⟩
            clear hbf hff HFA HB3
            go_wp2_with fail
            refine (is_yes a _ _).mono ?_
            rintro r wy ⟨rfl, hwy⟩
            subst hwy
            go_wp2_with fail
            refine (is_yes a _ _).mono ?_
            rintro r wy ⟨rfl, hwy⟩
            subst hwy
            go_wp2_with fail
            go_end0
            exact ⟨rfl, own1, by rw [hbu]; exact HZ.out.1, HZ.out.2⟩
          | false =>
            have k1 : ¬ p.now < b.till := by have h := HBZ.out; rw [hbu] at h; exact of_decide_eq_false h.symm
            have k2 : ¬ (p.now : Int) < b.till := by omega
            have k3 : decide ((p.now : Int) < b.till) = false := decide_eq_false k2
            have k4 : FR = 0 := HNZ.out hbu
            subst k4
            go_wp2_with fail
            refine (is_yes a _ _).mono ?_
            rintro r wz ⟨rfl, hwz⟩
            subst hwz
            clear c16 c17 c26 c14
            go_wp2_with fail
            go_loopg [14] b1.on.buckets (fun r v14 wx => ∃ k : Nat, v14 = .int .i64 k ∧ k + r = b1.on.buckets ∧ BoIs own1 wx a hd c ax vF (.slice ub b.rests.here.length uc) g1 (b1.idlesTo k) ∧ Fr BTag own own1 w wx)
            case atStart => exact ⟨0, rfl, by omega, by rw [idlesTo_zero]; exact HN.out.1, HN.out.2⟩
            case round =>
              obtain ⟨k, rfl, hk, hb, hf⟩ := hrel
              have c14 : wr.cell? ⟨a, 14, none⟩ = some (.int .i64 b1.on.buckets) := hb.cell 14 (by omega)
              by_cases hkl : k < b1.on.buckets
              · obtain ⟨r', rfl⟩ : ∃ r', gk = r' + 1 := ⟨gk - 1, by omega⟩
                have i2 : (k : Int) < b1.on.buckets := by omega
                have c32 : wr.cell? ⟨a, 32, none⟩ = some (.slice (some ⟨g1 3, 0, none⟩) b1.on.buckets b1.on.buckets) := hb.cell 32 (by omega)
                have c31 : wr.cell? ⟨a, 31, none⟩ = some (.slice (some ⟨g1 2, 0, none⟩) b1.on.buckets b1.on.buckets) := hb.cell 31 (by omega)
                have us : wr.cell? ⟨g1 3, k, none⟩ = some (.bool ((b1.idlesTo k).used k)) := hb.us.row.cell hkl
                have tu : wr.cell? ⟨g1 2, k, none⟩ = some (.int .i64 ((b1.idlesTo k).turn k : Nat)) := hb.tu.row.cell hkl
                have z3 := hb.us.row.frozen
                have z2 := hb.tu.row.frozen
                have tga := hb.row.tag; have tg3 := hb.us.tag; have tg2 := hb.tu.tag
                have n1 : ¬ g1 3 = a := fun x => by rw [x, tga] at tg3; omega
                have n2 : ¬ g1 3 = g1 2 := fun x => by rw [x, tg2] at tg3; omega
                have n3 : ¬ a = g1 3 := fun x => n1 x.symm
                have n4 : ¬ g1 2 = g1 3 := fun x => n2 x.symm
                obtain ⟨N1, K1⟩ := hb.usSet k false
                obtain ⟨N2, K2⟩ := N1.tuSet k 0
                have HM : Bx (BoIs own1 ((wr.setCell ⟨g1 3, k, none⟩ (.bool false)).setCell ⟨g1 2, k, none⟩ (.int .i64 0)) a hd c ax vF (.slice ub b.rests.here.length uc) g1 (b1.idlesTo (k + 1)) ∧ Fr BTag own own1 w ((wr.setCell ⟨g1 3, k, none⟩ (.bool false)).setCell ⟨g1 2, k, none⟩ (.int .i64 0))) := ⟨by rw [← idlesTo_step]; exact N2, (hf.trans K1).trans K2⟩
                clear hb hf N1 N2 K1 K2 tga tg3 tg2
                go_wp2_with fail
                go_roundg r'
                case rel => exact ⟨k + 1, by go_num, by omega, HM.out.1, HM.out.2⟩
                case measure => omega
              · have i2 : ¬ (k : Int) < b1.on.buckets := by omega
                have hkn : k = b1.on.buckets := by omega
                rw [hkn] at hb
                have HB2 : Bx (BoAt own1 wr a hd c ax (b.rests.idles false) ∧ Fr BTag own own1 w wr) := ⟨⟨_, _, _, by have h := hb.idled; rw [Hb1.out] at h; exact h⟩, hf⟩
                clear hb hf hkn
                have hsame := idles_same b false
                have hb2B : BoAt own1 wr a hd c ax (b.rests.idles false) := HB2.out.1
                have hon2 : (b.rests.idles false).on = p.c := by rw [hsame.1]; exact HON.out
                have HOV : Bx _ := ⟨overs_any own1 a hd c ax (b.rests.idles false) wr hb2B (by rw [hon2]; exact hb16) (fun i hi => by rw [hsame.2.1, hsame.2.2.1]; have h1 := HB.out.ar i (by rw [HON.out]; rw [hon2] at hi; exact hi); exact ⟨h1.1, h1.2.1⟩) (by rw [hon2]; intro i hi ho j hj; rw [hsame.2.1, hsame.2.2.1]; rw [hsame.2.2.2.2.1] at ho; exact (HS.out 2).over rfl i hi ho j hj)⟩
                clear hb2B hsame hon2
                go_wp2_with fail
                refine HOV.out.mono ?_
                rintro e wo ⟨rfl, hbo⟩
                have HB3 : Bx (BoAt own1 wo a hd c ax (b.rests.idles false) ∧ Fr BTag own own1 w wo) := ⟨HB2.out.1.below hbo, HB2.out.2.trans (Fr.below hbo)⟩
                clear hbo HB2 HOV
                have hsame := idles_same b false
                have hon2 : (b.rests.idles false).on = p.c := by rw [hsame.1]; exact HON.out
                have HFA : Bx _ := ⟨fair_any own1 a hd c ax (b.rests.idles false) wo HB3.out.1 (by rw [hon2]; exact hb16) (by rw [hon2]; exact HOK.out.c) (fun i hi => by rw [hsame.2.1, hsame.2.2.2.1]; have h1 := HB.out.ar i (by rw [HON.out]; rw [hon2] at hi; exact hi); exact ⟨h1.1, h1.2.2⟩) (fun m hm => by rw [hsame.2.2.2.2.2.1] at hm ⊢; exact HB.out.pr m hm) (fun i m hmi hi ho => by rw [hon2] at hi ho ⊢; rw [hsame.2.2.2.2.2.2] at ho ⊢; exact (HS.out 32).fair rfl i m hmi hi ho)⟩
                clear hsame hon2
                go_wp2_with fail
                refine HFA.out.mono ?_
                rintro e wf ⟨rfl, hbf, hff⟩
                have HZ : Bx (BoAt own1 wf a hd c ax (b.stands false) ∧ Fr BTag own own1 w wf) := ⟨hbf, HB3.out.2.trans hff⟩
                clear hbf hff HFA HB3
                go_wp2_with fail
                refine (is_yes a _ _).mono ?_
                rintro r wy ⟨rfl, hwy⟩
                subst hwy
                go_wp2_with fail
                refine (is_yes a _ _).mono ?_
                rintro r wy ⟨rfl, hwy⟩
                subst hwy
                go_wp2_with fail
                go_end0
                exact ⟨rfl, own1, by rw [hbu]; exact HZ.out.1, HZ.out.2⟩

end Go.Proofs.Ytnkicbopebgppaa

/-! What happened is booked. -/
namespace Go.Proofs.Ytnkicbopebgppaa
open Go.RowKit Fl

def Bo.clearsTo (b : Bo) (k : Nat) : Bo := { b with left := fun i => if i < k then 0 else b.left i, over := fun i => if i < k then false else b.over i }

theorem clearsTo_zero (b : Bo) : b.clearsTo 0 = b := by
  have h1 : (fun i => if i < 0 then 0 else b.left i) = b.left := by funext i; rw [if_neg (by omega)]
  have h2 : (fun i => if i < 0 then false else b.over i) = b.over := by funext i; rw [if_neg (by omega)]
  unfold Bo.clearsTo
  rw [h1, h2]
theorem clearsTo_step (b : Bo) (k : Nat) : ({ b.clearsTo k with left := setAt (b.clearsTo k).left k 0, over := setAt (b.clearsTo k).over k false } : Bo) = b.clearsTo (k + 1) := by
  have h1 : setAt (b.clearsTo k).left k 0 = fun i => if i < k + 1 then 0 else b.left i := by
    funext i
    by_cases e : i = k
    · rw [e, setAt_same, if_pos (by omega)]
    · rw [setAt_other _ _ _ _ e]
      show (if i < k then 0 else b.left i) = _
      by_cases e2 : i < k
      · rw [if_pos e2, if_pos (by omega)]
      · rw [if_neg e2, if_neg (by omega)]
  have h2 : setAt (b.clearsTo k).over k false = fun i => if i < k + 1 then false else b.over i := by
    funext i
    by_cases e : i = k
    · rw [e, setAt_same, if_pos (by omega)]
    · rw [setAt_other _ _ _ _ e]
      show (if i < k then false else b.over i) = _
      by_cases e2 : i < k
      · rw [if_pos e2, if_pos (by omega)]
      · rw [if_neg e2, if_neg (by omega)]
  rw [h1, h2]
  rfl

theorem BoIs.cleared {own : Nat → Nat} {w : World} {a hd : Nat} {c : Cf} {ax : Nat} {vF vH : Value} {g : Nat → Nat} {b : Bo} (h : BoIs own w a hd c ax vF vH g (b.clearsTo b.on.buckets)) : BoIs own w a hd c ax vF vH g b.clears :=
  h.congr rfl rfl rfl rfl rfl rfl (fun _ _ => rfl) (fun _ _ => rfl) (fun _ _ => rfl) (fun _ _ => rfl) (fun _ _ => rfl) (fun _ hi => (if_pos hi).symm) (fun _ hi => (if_pos hi).symm) (fun _ _ => rfl)

set_option maxRecDepth 100000 in
set_option maxHeartbeats 6400000 in
theorem happened_any (own : Nat → Nat) (a hd : Nat) (c : Cf) (ax : Nat) (p : Pt) (b : Bo) (l : List Ev) (v : Value) (w : World) (h : BoAt own w a hd c ax b) (hp : PtAt own w 100 ax p) (hok : p.ok) (hon : b.on = p.c) (hsl : Sl evG own w 50 5 v l.length (evCells l)) (hl : l.length ≤ 16777216) (hE : ∀ hd, EvsOk hd p.now b.clears l) (hBd : ∀ i (h : i < l.length), EvB (b.clears.events (l.take i)) l[i])
    (hS : ∀ hd, StOk hd p (b.clears.events l)) (hSB : StB (b.clears.events l)) (hH : HonestIs) :
    Calls Try.prog 32 #[.pointer (some ⟨a, 0, none⟩), v] w fun e w' => e = .returned (.tuple #[]) ∧ ∃ own', BoAt own' w' a hd c ax ((b.clears.events l).stands p.busy) ∧ Fr BTag own own' w w' := by
  obtain ⟨vF, vH, g, h⟩ := h
  have hb16 := hok.c.b2
  have hn : b.on.buckets ≤ 16 := by rw [hon]; exact hb16
  obtain ⟨vb, vc, hv⟩ : ∃ vb k, v = .slice vb l.length k := by
    obtain ⟨_, h2⟩ := hsl
    rcases h2 with ⟨hv, hn⟩ | ⟨g, off, cap, hv, _⟩
    · exact ⟨none, 0, by rw [hv, hn]⟩
    · exact ⟨some ⟨g, off, none⟩, cap, hv⟩
  subst hv
  have H : Bx _ := ⟨h⟩
  have HP : Bx _ := ⟨hp⟩
  have HSL : Bx _ := ⟨hsl⟩
  have HE : Bx _ := ⟨hE⟩
  have HBD : Bx _ := ⟨hBd⟩
  have HS : Bx _ := ⟨hS⟩
  have HSB : Bx _ := ⟨hSB⟩
  have HH : Bx _ := ⟨hH⟩
  have HOK : Bx _ := ⟨hok⟩
  have HON : Bx _ := ⟨hon⟩
  clear h hp hsl hE hBd hS hSB hH hok hon
  go_enter Try.func32, Try.ntmps32
  go_wp2_with fail
  go_loopg [4] b.on.buckets (fun r v4 wr => ∃ k : Nat, v4 = .int .i64 k ∧ k + r = b.on.buckets ∧ BoIs own wr a hd c ax vF vH g (b.clearsTo k) ∧ Fr BTag own own w wr)
  case atStart => exact ⟨0, rfl, by omega, by rw [clearsTo_zero]; exact H.out, Fr.refl _ _ _⟩
  case round =>
    clear H
    obtain ⟨k, rfl, hk, hb, hf⟩ := hrel
    have c14 : wr.cell? ⟨a, 14, none⟩ = some (.int .i64 b.on.buckets) := hb.cell 14 (by omega)
    by_cases hlt : k < b.on.buckets
    · obtain ⟨r', rfl⟩ : ∃ r', gk = r' + 1 := ⟨gk - 1, by omega⟩
      have i1 : (k : Int) < b.on.buckets := by omega
      have c34 : wr.cell? ⟨a, 34, none⟩ = some (.slice (some ⟨g 5, 0, none⟩) b.on.buckets b.on.buckets) := hb.cell 34 (by omega)
      have c35 : wr.cell? ⟨a, 35, none⟩ = some (.slice (some ⟨g 6, 0, none⟩) b.on.buckets b.on.buckets) := hb.cell 35 (by omega)
      have le : wr.cell? ⟨g 5, k, none⟩ = some (.int .i64 ((b.clearsTo k).left k : Nat)) := hb.le.row.cell hlt
      have ov : wr.cell? ⟨g 6, k, none⟩ = some (.bool ((b.clearsTo k).over k)) := hb.ov.row.cell hlt
      have z5 := hb.le.row.frozen
      have z6 := hb.ov.row.frozen
      have tga := hb.row.tag; have tg5 := hb.le.tag; have tg6 := hb.ov.tag
      have n1 : ¬ g 5 = a := fun x => by rw [x, tga] at tg5; omega
      have n2 : ¬ g 5 = g 6 := fun x => by rw [x, tg6] at tg5; omega
      have n3 : ¬ a = g 5 := fun x => n1 x.symm
      have n4 : ¬ g 6 = g 5 := fun x => n2 x.symm
      obtain ⟨N1, K1⟩ := hb.leSet k 0
      obtain ⟨N2, K2⟩ := N1.ovSet k false
      have HN : Bx (BoIs own ((wr.setCell ⟨g 5, k, none⟩ (.int .i64 0)).setCell ⟨g 6, k, none⟩ (.bool false)) a hd c ax vF vH g (b.clearsTo (k + 1)) ∧ Fr BTag own own w ((wr.setCell ⟨g 5, k, none⟩ (.int .i64 0)).setCell ⟨g 6, k, none⟩ (.bool false))) := ⟨by rw [← clearsTo_step]; exact N2, (hf.trans K1).trans K2⟩
      clear hb hf N1 N2 K1 K2 tga tg5 tg6
      go_wp2_with fail
      go_roundg r'
      case rel => exact ⟨k + 1, by go_num, by omega, HN.out.1, HN.out.2⟩
      case measure => omega
    · have i1 : ¬ (k : Int) < b.on.buckets := by omega
      have hkn : k = b.on.buckets := by omega
      rw [hkn] at hb
      have HB1 : Bx (BoAt own wr a hd c ax (b.clears.events (l.take 0)) ∧ Fr BTag own own w wr) := ⟨⟨vF, vH, g, hb.cleared⟩, hf⟩
      clear hb hf
      go_wp2_with fail
      clear c14
      go_loopg [5] l.length (fun r v5 wx => ∃ i : Nat, v5 = .int .i64 i ∧ i + r = l.length ∧ BoAt own wx a hd c ax (b.clears.events (l.take i)) ∧ Fr BTag own own w wx)
      case atStart => exact ⟨0, rfl, by omega, HB1.out.1, HB1.out.2⟩
      case round =>
        clear HB1
        obtain ⟨i, rfl, hi, hb, hf⟩ := hrel
        have c2 : wr.cell? ⟨a, 2, none⟩ = some (.bool false) := by
          obtain ⟨vF, vH, g, h⟩ := hb
          exact h.cell 2 (by omega)
        have HB : Bx _ := ⟨And.intro hb hf⟩
        have HPw : Bx _ := ⟨PtAt.fr HP.out hb16 hf⟩
        clear hb hf
        by_cases hil : i < l.length
        · obtain ⟨r', rfl⟩ : ∃ r', gk = r' + 1 := ⟨gk - 1, by omega⟩
          have i2 : (i : Int) < l.length := by omega
          have hs2 := HSL.out.fr HB.out.2 (by show ¬ (2 ≤ 50 ∧ 50 < 20); omega)
          obtain ⟨ge, off, cap, hvv⟩ := Sl.some hs2 (by omega)
          injection hvv with hv1 _ hv3
          subst hv1 hv3
          have hcap : l.length ≤ vc := (Sl.at hs2).2.2.1
          have hE1 := fun hd => (HE.out hd).at i hil
          have hev := event_any own a hd c ax p ge (off + i * 5) l[i] (b.clears.events (l.take i)) wr HB.out.1 HPw.out (evAt_of l hs2 i hil) (Sl.at hs2).1 (Sl.at hs2).2.1 hE1 (HBD.out i hil) HH.out
          rw [← events_take b.clears l i hil] at hev
          have HEV : Bx _ := ⟨hev⟩
          clear hev hE1 hs2
          go_wp2_with fail
          refine HEV.out.mono ?_
          rintro e w3 ⟨rfl, hb3, hf3⟩
          have HB3 : Bx _ := ⟨And.intro hb3 (HB.out.2.trans hf3)⟩
          clear hb3 hf3 HEV c2
          go_wp2_with fail
          go_roundg r'
          case rel => exact ⟨i + 1, by go_num, by omega, HB3.out.1, HB3.out.2⟩
          case measure => omega
        · have i2 : ¬ (i : Int) < l.length := by omega
          have i3 : decide ((i : Int) < l.length) = false := decide_eq_false i2
          have hii : i = l.length := by omega
          have HBz : Bx (BoAt own wr a hd c ax (b.clears.events l)) := ⟨by have h1 := HB.out.1; rw [hii, List.take_length] at h1; exact h1⟩
          have hst := stands_any own a hd c ax p (b.clears.events l) wr HBz.out HPw.out HOK.out (by rw [events_on]; exact HON.out) HS.out HSB.out
          have HST : Bx _ := ⟨hst⟩
          clear hst hii
          go_wp2_with fail
          refine HST.out.mono ?_
          rintro e w3 ⟨rfl, own3, hb3, hf3⟩
          have HZ : Bx (BoAt own3 w3 a hd c ax ((b.clears.events l).stands p.busy) ∧ Fr BTag own own3 w w3) := ⟨hb3, HB.out.2.trans hf3⟩
          clear hb3 hf3 HST c2
          go_wp2_with fail
          go_end0
          exact ⟨rfl, own3, HZ.out.1, HZ.out.2⟩

end Go.Proofs.Ytnkicbopebgppaa
