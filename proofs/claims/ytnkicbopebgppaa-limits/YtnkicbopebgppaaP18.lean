import Derived.Test.YtnkicbopebgppaaP16
import Derived.Test.YtnkicbopebgppaaP09
import Derived.Test.YtnkicbopebgppaaP17
import Derived.Lib.BufferMore
/-! Where a frame went. -/
namespace Go.Proofs.Ytnkicbopebgppaa
open Go.RowKit Fl

theorem make_intsB (n : Nat) (hn : n ≤ 1000) (w : World) : (Instr.makeSlice 34 (.int .i64 (n : Int)) (.int .i64 (n : Int))).run Try.prog w = .ok (.slice (some ⟨w.heap.size, 0, none⟩) n n) (w.alloc (Obj.cells (madeCells #[.int .i64 0] n) 3)) := by
  obtain ⟨i0, hi, hz0, hz1, hz2⟩ := info_parts infoInt
  have h := run_make (P := Try.prog) w 34 3 i0 (.int .i64 0) Try.underlying34 hi hz0 .i64 .i64 (n : Int) (n : Int) (by omega) (Int.le_refl _) (by rw [hz2]; omega) (by omega)
  have e : ((n : Int)).toNat = n := by omega
  rw [e] at h
  simpa [hz1, Value.cells] using h

theorem made_intsB (n : Nat) (w : World) : (w.alloc (Obj.cells (madeCells #[.int .i64 0] n) 3)).rowIs w.heap.size 3 n (fun _ => .int .i64 0) := by
  have h := World.rowIs_alloc w (madeCells #[.int .i64 0] n) 3 (fun _ => .int .i64 0) (fun i hi => by
    rw [size_madeCells] at hi
    have hi' : i < n := by simpa using hi
    simp only [madeCells, Array.getElem?_map, Array.getElem?_range]
    simp [hi', Nat.mod_one])
  rw [size_madeCells] at h
  simpa using h

theorem goneOf_take (i : Nat) (l : List Ev) (j : Nat) (h : j < l.length) : goneOf i (l.take (j + 1)) = goneOf i (l.take j) + if l[j].b = i then l[j].s.size else 0 := by
  have app : ∀ (l m : List Ev), goneOf i (l ++ m) = goneOf i l + goneOf i m := by
    intro l
    induction l with
    | nil => intro m; simp [goneOf]
    | cons e l ih => intro m; simp only [List.cons_append, goneOf, ih]; omega
  rw [List.take_add_one, List.getElem?_eq_getElem h, app]
  simp [goneOf]

theorem goneOf_mono (i : Nat) (l : List Ev) (j : Nat) : goneOf i (l.take j) ≤ goneOf i l := by
  have app : ∀ (l m : List Ev), goneOf i (l ++ m) = goneOf i l + goneOf i m := by
    intro l
    induction l with
    | nil => intro m; simp [goneOf]
    | cons e l ih => intro m; simp only [List.cons_append, goneOf, ih]; omega
  have := app (l.take j) (l.drop j)
  rw [List.take_append_drop] at this
  omega

set_option maxRecDepth 100000 in
set_option maxHeartbeats 6400000 in
theorem bucket_any (own : Nat → Nat) (a hd : Nat) (c : Cf) (ax : Nat) (b : Bo) (p : Pt) (l : List Ev) (v : Value) (id k : Nat) (t : ByteArray) (w : World) (h : BoAt own w a hd c ax b) (hp : PtAt own w 100 ax p) (hok : p.ok) (hon : b.on = p.c) (hk : k < p.c.buckets) (ht1 : 1 ≤ t.size) (ht : t.size ≤ 200) (hsl : Sl evG own w 50 5 v l.length (evCells l)) (hl : l.length ≤ 16777216)
    (hb : ∀ e ∈ l, e.b < p.c.buckets ∧ e.s.size ≤ 200) (hid : ∀ e ∈ l, e.id = id → e.b = k) (hsz : ∀ i, i < p.c.buckets → qBytes (p.bk i).q + goneOf i l = b.size i + if i = k then t.size else 0) (hs : ∀ i, i < p.c.buckets → b.size i ≤ 20000) :
    Calls Try.prog 28 #[.pointer (some ⟨a, 0, none⟩), .int .i64 id, .string t, v] w fun e w' => e = .returned (.int .i64 k) ∧ Below w.heap.size w w' := by
  obtain ⟨vF, vH, g, h⟩ := h
  have hb16 := hok.c.b2
  have hn : b.on.buckets = p.c.buckets := by rw [hon]
  obtain ⟨vb, vc, hv⟩ : ∃ vb k, v = .slice vb l.length k := by
    obtain ⟨_, h2⟩ := hsl
    rcases h2 with ⟨hv, hn⟩ | ⟨g, off, cap, hv, _⟩
    · exact ⟨none, 0, by rw [hv, hn]⟩
    · exact ⟨some ⟨g, off, none⟩, cap, hv⟩
  subst hv
  have c14 : w.cell? ⟨a, 14, none⟩ = some (.int .i64 b.on.buckets) := h.cell 14 (by omega)
  rw [hn] at c14
  have hm := make_intsB p.c.buckets (by omega)
  have hr0 := made_intsB p.c.buckets w
  have hB0 : Below w.heap.size w (w.alloc (Obj.cells (madeCells #[.int .i64 0] p.c.buckets) 3)) := (Below.refl _ _).alloc (Nat.le_refl _) _
  have H : Bx _ := ⟨h⟩
  have HP : Bx _ := ⟨hp⟩
  have HSL : Bx _ := ⟨hsl⟩
  have HB : Bx _ := ⟨hb⟩
  have HID : Bx _ := ⟨hid⟩
  have HSZ : Bx _ := ⟨hsz⟩
  have HS : Bx _ := ⟨hs⟩
  have HN : Bx _ := ⟨hn⟩
  have HOK : Bx _ := ⟨hok⟩
  have HR0 : Bx _ := ⟨And.intro hr0 hB0⟩
  clear h hp hsl hb hid hsz hs hn hok hon hr0 hB0
  go_enter Try.func28, Try.ntmps28
  go_wp2_with fail
  clear c14 hm
  obtain ⟨g0, Hg0⟩ : ∃ g0, Bx (w.heap.size = g0) := ⟨_, ⟨rfl⟩⟩
  rw [Hg0.out] at HR0 ⊢
  generalize w.alloc (Obj.cells (madeCells #[.int .i64 0] p.c.buckets) 3) = w1 at *
  go_loopg [10] l.length (fun r v10 wr => ∃ i : Nat, v10 = .int .i64 i ∧ i + r = l.length ∧ wr.rowIs g0 3 p.c.buckets (fun j => .int .i64 (goneOf j (l.take i) : Nat)) ∧ Below g0 w wr)
  case atStart => exact ⟨0, rfl, by omega, HR0.out.1, HR0.out.2⟩
  case round =>
    clear HR0
    obtain ⟨i, rfl, hi, hr, hbe⟩ := hrel
    have hbe' : Below w.heap.size w wr := by rw [Hg0.out]; exact hbe
    have hB := H.out.below hbe'
    by_cases hil : i < l.length
    · obtain ⟨r', rfl⟩ : ∃ r', gk = r' + 1 := ⟨gk - 1, by omega⟩
      have i1 : (i : Int) < l.length := by omega
      have hs2 := HSL.out.fr (Fr.below (T := fun _ => False) hbe') (fun x => x)
      obtain ⟨ge, off, cap, hvv⟩ := Sl.some hs2 (by omega)
      injection hvv with hv1 _ hv3
      subst hv1 hv3
      have hcap : l.length ≤ vc := (Sl.at hs2).2.2.1
      have hge : ge < w.heap.size := by
        have h1 := HSL.out
        exact (Sl.at h1).2.1
      have hne1 : ¬ g0 = ge := by have := Hg0.out; omega
      have hne2 : ¬ ge = g0 := fun x => hne1 x.symm
      have ea := evAt_of l hs2 i hil
      have e2 := ea.e2; have e3 := ea.e3; have e4 := ea.e4
      obtain ⟨hb1, hb2⟩ := HB.out l[i] (List.getElem_mem hil)
      have hid1 := HID.out l[i] (List.getElem_mem hil)
      have hgt := fun j => goneOf_take j l i hil
      obtain ⟨E, HE⟩ : ∃ E, Bx (l[i] = E) := ⟨_, ⟨rfl⟩⟩
      rw [HE.out] at e2 e3 e4 hb1 hb2 hid1 hgt
      have c14 : wr.cell? ⟨a, 14, none⟩ = some (.int .i64 b.on.buckets) := hB.cell 14 (by omega)
      rw [HN.out] at c14
      have i2 : (E.b : Int) < p.c.buckets := by omega
      have i3 : decide ((E.b : Int) < 0) = false := by simp
      have i4 : decide ((p.c.buckets : Int) ≤ E.b) = false := by simp; omega
      have i5 : ¬ (p.c.buckets : Int) ≤ E.b := by omega
      have HG : Bx (∀ j, goneOf j (l.take (i + 1)) = goneOf j (l.take i) + if E.b = j then E.s.size else 0) := ⟨hgt⟩
      have HR : Bx _ := ⟨And.intro hr hbe⟩
      have HID1 : Bx _ := ⟨hid1⟩
      have hgl := goneOf_mono E.b l i
      have hgz := HSZ.out E.b hb1
      have hgs := HS.out E.b hb1
      have hgb : goneOf E.b (l.take i) ≤ 20200 := by split at hgz <;> omega
      clear hs2 ea hr hbe hbe' hB hgt hid1 hgl hgz hgs hb1
      go_wp2_with fail
      go_quiet (fail)
      have HR2 : Bx ((wr.drewN nq).rowIs g0 3 p.c.buckets (fun j => .int .i64 (goneOf j (l.take i) : Nat)) ∧ Below g0 w (wr.drewN nq)) := ⟨HR.out.1, HR.out.2.drewN nq⟩
      have Y : ∀ (q : Addr), (wr.drewN nq).cell? q = wr.cell? q := fun _ => rfl
      rw [← Y] at e2 e3 e4 c14
      clear HR Y
      generalize wr.drewN nq = w2 at *
      by_cases heq : E.id = id
      · have heq2 : (E.id : Int) = id := by omega
        have HEK : Bx (E.b = k) := ⟨HID1.out heq⟩
        go_wp2_with fail
        refine bodyPost_ret (v := .int .i64 E.b) (by simp [results, Try.results28, go_sem]) rfl ⟨by rw [HEK.out], by rw [Hg0.out]; exact HR2.out.2⟩
      · have heq2 : ¬ (E.id : Int) = id := by omega
        have gn : w2.cell? ⟨g0, E.b, none⟩ = some (.int .i64 (goneOf E.b (l.take i) : Nat)) := HR2.out.1.cell (by omega)
        have gz := HR2.out.1.frozen
        obtain ⟨GN, HGN⟩ : ∃ GN, Bx (goneOf E.b (l.take i) = GN) := ⟨_, ⟨rfl⟩⟩
        rw [HGN.out] at gn hgb
        have HR3 : Bx ((w2.setCell ⟨g0, E.b, none⟩ (.int .i64 ((GN : Int) + E.s.size))).rowIs g0 3 p.c.buckets (fun j => .int .i64 (goneOf j (l.take (i + 1)) : Nat)) ∧ Below g0 w (w2.setCell ⟨g0, E.b, none⟩ (.int .i64 ((GN : Int) + E.s.size)))) := ⟨(HR2.out.1.set E.b (.int .i64 ((GN : Int) + E.s.size))).congr (fun j _ => by
          show (if j = E.b then Value.int .i64 ((GN : Int) + E.s.size) else .int .i64 (goneOf j (l.take i) : Nat)) = .int .i64 (goneOf j (l.take (i + 1)) : Nat)
          rw [HG.out j]
          by_cases ej : j = E.b
          · rw [if_pos ej, if_pos ej.symm, ej, HGN.out]; simp
          · rw [if_neg ej, if_neg (fun e => ej e.symm), Nat.add_zero]), HR2.out.2.setCell (p := ⟨g0, E.b, none⟩) (Nat.le_refl _) _⟩
        clear HR2
        go_wp2_with fail
        go_region
        all_goals go_wp2_with fail
        all_goals go_roundg r'
        case rel => exact ⟨i + 1, by go_num, by omega, HR3.out.1, HR3.out.2.drew⟩
        case measure => omega
    · have i1 : ¬ (i : Int) < l.length := by omega
      have hii : i = l.length := by omega
      rw [hii, List.take_length] at hr
      have HR : Bx _ := ⟨And.intro hr hbe⟩
      clear hr hbe hbe' hB hii
      go_wp2_with fail
      go_loopg [11, 12, 13] p.c.buckets (fun r v11 _ _ wx => ∃ j : Nat, v11 = .int .i64 j ∧ j + r = p.c.buckets ∧ j ≤ k ∧ wx.rowIs g0 3 p.c.buckets (fun j => .int .i64 (goneOf j l : Nat)) ∧ Below g0 w wx)
      case atStart => exact ⟨0, rfl, by omega, Nat.zero_le _, HR.out.1, HR.out.2⟩
      case round =>
        clear HR
        obtain ⟨j, rfl, hj, hjk, hr, hbe⟩ := hrel
        obtain ⟨r', rfl⟩ : ∃ r', gk = r' + 1 := ⟨gk - 1, by omega⟩
        have hbe' : Below w.heap.size w wr := by rw [Hg0.out]; exact hbe
        have hB := H.out.below hbe'
        have hjl : j < p.c.buckets := by omega
        have i2 : (j : Int) < p.c.buckets := by omega
        have c13 : wr.cell? ⟨a, 13, none⟩ = some (.pointer (some ⟨ax, 0, none⟩)) := hB.cell 13 (by omega)
        have c14 : wr.cell? ⟨a, 14, none⟩ = some (.int .i64 b.on.buckets) := hB.cell 14 (by omega)
        have c33 : wr.cell? ⟨a, 33, none⟩ = some (.slice (some ⟨g 4, 0, none⟩) b.on.buckets b.on.buckets) := hB.cell 33 (by omega)
        have si : wr.cell? ⟨g 4, j, none⟩ = some (.int .i64 (b.size j : Nat)) := hB.si.row.cell (by rw [HN.out]; exact hjl)
        have gn : wr.cell? ⟨g0, j, none⟩ = some (.int .i64 (goneOf j l : Nat)) := hr.cell hjl
        rw [HN.out] at c14 c33
        have hPW := PtAt.fr HP.out hb16 (Fr.below hbe')
        have HBL := pbacklog_any own 100 ax p.counts p j wr hPW hjl
        have hz := HSZ.out j hjl
        have hz2 := HS.out j hjl
        obtain ⟨Q, HQ⟩ : ∃ Q : Nat, Bx (qBytes (p.bk j).q = Q) := ⟨_, ⟨rfl⟩⟩
        obtain ⟨GN, HGN⟩ : ∃ GN : Nat, Bx (goneOf j l = GN) := ⟨_, ⟨rfl⟩⟩
        rw [HQ.out] at HBL hz
        rw [HGN.out] at gn hz
        have q0 : GN ≤ 20200 := by split at hz <;> omega
        have q1 : Q ≤ 20200 := by split at hz <;> omega
        have HBX : Bx _ := ⟨HBL⟩
        have HR : Bx _ := ⟨And.intro hr hbe⟩
        clear hr hbe hbe' hB hPW HBL
        by_cases hjk2 : j = k
        · rw [if_pos hjk2] at hz
          have z1 : (Q : Int) = (b.size j : Nat) - (GN : Int) + t.size := by omega
          have HJK : Bx _ := ⟨hjk2⟩
          clear hjk2
          go_wp2_with fail
          refine HBX.out.mono ?_
          rintro e w8 ⟨rfl, hw8⟩
          subst hw8
          go_wp2_with fail
          go_quiet (fail)
          go_wp2_with fail
          refine bodyPost_ret (v := .int .i64 j) (by simp [results, Try.results28, go_sem]) rfl ⟨by rw [HJK.out], by rw [Hg0.out]; exact HR.out.2.drewN _⟩
        · rw [if_neg hjk2] at hz
          have z1 : ¬ (Q : Int) = (b.size j : Nat) - (GN : Int) + t.size := by omega
          go_wp2_with fail
          refine HBX.out.mono ?_
          rintro e w8 ⟨rfl, hw8⟩
          subst hw8
          go_wp2_with fail
          go_quiet (fail)
          go_wp2_with fail
          go_roundg r'
          case rel => exact ⟨j + 1, by go_num, by omega, by omega, HR.out.1, HR.out.2.drewN _⟩
          case measure => omega

end Go.Proofs.Ytnkicbopebgppaa

/-! A frame arrives: what is known ahead of the walk. -/
namespace Go.Proofs.Ytnkicbopebgppaa
open Go.RowKit Fl

theorem JB.arriveAll {p : Pt} {b : Bo} (hJ : ∀ hd, JB hd p b) (k : Nat) (t : ByteArray) (hk : place p.c t = k) (h1 : 1 ≤ t.size) (h2 : t.size ≤ p.c.length) (able : Bool) (hable : able = true → canB t = true) (p' : Pt) (hp : p.arrive t = p') (l : List Ev) (hl : p'.done = p.done ++ l) :
    k < p.c.buckets ∧ (∀ hd, Went hd p.now p ((b.joins k (b.claimed k t p.now able)).clears) p' l) ∧ (∀ e ∈ l, e.id = p.ids → e.b = k) ∧ (∀ i, i < p.c.buckets → qBytes (p'.bk i).q + goneOf i l = b.size i + if i = k then t.size else 0) := by
  have key : ∀ hd, k < p.c.buckets ∧ Went hd p.now p ((b.joins k (b.claimed k t p.now able)).clears) p' l ∧ (∀ e ∈ l, e.id = p.ids → e.b = k) ∧ (∀ i, i < p.c.buckets → qBytes (p'.bk i).q + goneOf i l = b.size i + if i = k then t.size else 0) := by
    intro hd
    obtain ⟨g1, l', W, g2, g3⟩ := (hJ hd).arrive k t hk h1 h2 able hable p' hp
    have e : l' = l := by
      have h := W.done
      rw [hl] at h
      exact (List.append_cancel_left h).symm
    subst e
    exact ⟨g1, W, g2, g3⟩
  exact ⟨(key 0).1, fun hd => (key hd).2.1, (key 0).2.2.1, (key 0).2.2.2⟩

/-- Numbers stay small while events are booked. -/
theorem Went.bounds {N : Nat} {p p' : Pt} {b1 : Bo} {l : List Ev} (hW : ∀ hd, Went hd N p b1 p' l) (hB : BdB (200 * p.done.length) b1) (hok : p'.ok) (hids : p'.ids ≤ 16777216) (hN : N ≤ 4611686018427387904) (hs : ∀ i, i < b1.on.buckets → b1.size i ≤ 20000) (hh : b1.here.length ≤ 1000) (hf : b1.f.length ≤ 16777216) (hon : b1.on.ok) :
    (∀ i (h : i < l.length), EvB (b1.events (l.take i)) l[i]) ∧ StB (b1.events l) ∧ BdB (200 * p'.done.length) ((b1.events l).stands p'.busy) := by
  have hE := (hW 0).ok
  have hd := (hW 0).done
  have hlen : p'.done.length = p.done.length + l.length := by rw [hd, List.length_append]
  have hdn := hok.dn
  have htot : 200 * p.done.length + 200 * l.length ≤ 200 * 16777216 := by omega
  have hall := hB.events hE
  refine ⟨fun i hi => ?_, ⟨by rw [events_here]; exact hh, by rw [events_len]; omega, fun i hib => ?_, fun m hm => ?_⟩, ?_⟩
  · have ht := hE.take i
    have hb := hB.events ht
    have hk := hE.at i hi
    have hti : (l.take i).length ≤ l.length := by rw [List.length_take]; omega
    have hbd := hb.ar l[i].b
    have hsz := events_less ht l[i].b
    have hs0 := hs l[i].b (by have := hk.bu; rw [events_on] at this; exact this)
    have hti2 : 200 * (l.take i).length ≤ 200 * l.length := Nat.mul_le_mul_left _ hti
    refine ⟨Nat.le_trans hk.hi hN, by rw [events_on]; exact hon.u2, by omega, by omega, by omega, by omega, by rw [events_len]; omega, by rw [events_on]; have h1 := hon.t2; have h2 := hon.i2; omega⟩
  · have hbd := hall.ar i
    have hsz := events_less hE i
    have hs0 := hs i (by rw [events_on] at hib; exact hib)
    omega
  · have := hall.pr m hm
    omega
  · refine (hall.stands p'.busy).mono ?_
    rw [hlen]; omega

theorem infoFq : (Try.prog.info? 72).map (fun i => (i.zero, i.size, i.bytes)) = some (some (.agg #[.string ⟨#[]⟩, .int .i64 0, .bool false, .bool false, .int .i64 0, .int .i64 0]), 6, 48) := by kernel_rfl

theorem fq_at {w : World} {g : Nat} (f : Fq) (h0 : w.cell? ⟨g, 0, none⟩ = some (.string f.s)) (h1 : w.cell? ⟨g, 1, none⟩ = some (.int .i64 f.at_)) (h2 : w.cell? ⟨g, 2, none⟩ = some (.bool f.able)) (h3 : w.cell? ⟨g, 3, none⟩ = some (.bool f.gone)) (h4 : w.cell? ⟨g, 4, none⟩ = some (.int .i64 f.first)) (h5 : w.cell? ⟨g, 5, none⟩ = some (.int .i64 f.soon)) :
    ∀ j u, f.cells[j]? = some u → w.cell? ((⟨g, 0, none⟩ : Addr).add j) = some u := by
  intro j u hj
  rw [Addr.add_lit]
  match j, hj with
  | 0, hj => simp [Fq.cells] at hj; subst hj; exact h0
  | 1, hj => simp [Fq.cells] at hj; subst hj; exact h1
  | 2, hj => simp [Fq.cells] at hj; subst hj; exact h2
  | 3, hj => simp [Fq.cells] at hj; subst hj; exact h3
  | 4, hj => simp [Fq.cells] at hj; subst hj; exact h4
  | 5, hj => simp [Fq.cells] at hj; subst hj; exact h5
  | n + 6, hj => simp [Fq.cells] at hj

theorem fq_one (f : Fq) : ∀ u ∈ f.cells, u.oneCell' = true := by
  intro u hu
  simp only [Fq.cells, List.mem_cons, List.not_mem_nil, or_false] at hu
  rcases hu with rfl | rfl | rfl | rfl | rfl | rfl <;> rfl

theorem step_append_fq {ops : Array Oper} {o : Oper} {a : Act} {w : World} {K : Act → World → Prop} {Q : Exit → Act → World → Prop} {X : Prop} (hgd : o.guard = none) (s x : Operand)
    (hop : o.op = Op.call { callee := Callee.builtin Builtin.append, args := #[s, x], argTypes := #[33, 33] })
    (own : Nat → Nat) (v : Value) (E : List Fq) (hs : a.eval s = v) (hsl : Sl anyC own w 10 6 v E.length (fqCells E)) (g c : Nat) (f : Fq) (hx : a.eval x = .slice (some ⟨g, 0, none⟩) 1 c)
    (h0 : w.cell? ⟨g, 0, none⟩ = some (.string f.s)) (h1 : w.cell? ⟨g, 1, none⟩ = some (.int .i64 f.at_)) (h2 : w.cell? ⟨g, 2, none⟩ = some (.bool f.able)) (h3 : w.cell? ⟨g, 3, none⟩ = some (.bool f.gone)) (h4 : w.cell? ⟨g, 4, none⟩ = some (.int .i64 f.first)) (h5 : w.cell? ⟨g, 5, none⟩ = some (.int .i64 f.soon))
    (hE : E.length ≤ 67108864)
    (h : ∀ v' w' own', Sl anyC own' w' 10 6 v' (E ++ [f]).length (fqCells (E ++ [f])) → Fr (fun x => x = 10) own own' w w' → (∃ b k, v' = .slice (some b) (E.length + 1) k) → K (a.put o.dst v') w') :
    if Region.wanted o (yielded ops a.tmps) = true then Oper.wp Try.prog o a w K Q else X := by
  obtain ⟨i0, hi, hz0, hz1, hz2⟩ := info_parts infoFq
  refine step_append_sl hgd _ _ 33 hop 72 i0 _ 6 48 Try.underlying33 hi hz0 hz1 hz2 rfl (by decide) anyC own 10 v E.length (fqCells E) hs hsl ⟨g, 0, none⟩ 1 c f.cells hx rfl (fq_at f h0 h1 h2 h3 h4 h5) (fq_one f) (fun _ _ _ => trivial) (fun _ _ _ => trivial) (by decide) (by unfold maxLen; omega) (by omega) ?_
  intro v' w' own' hsl' hfr hv
  refine h v' w' own' ?_ hfr hv
  rw [fqCells_append, List.length_append]
  have e : fqCells [f] = f.cells := by simp [fqCells]
  rw [e]
  exact hsl'

/-- The tags of all that the law owns. -/
def WTag : Nat → Prop := fun t => t ≠ 0

/-- Where the law stands between two steps. -/
structure WoIs (own : Nat → Nat) (w : World) (a hd : Nat) (c : Cf) (n ax : Nat) (p : Pt) (b : Bo) : Prop where
  bo : BoAt own w a hd c ax b
  pt : PtAt own w 100 ax p
  jk : Junk own w
  cok : c.ok
  jb : ∀ hd, JB hd p b
  bd : BdB (200 * p.done.length) b
  ids : p.ids ≤ n

def WoAt (own : Nat → Nat) (w : World) (a hd n : Nat) (c : Cf) : Prop := ∃ ax p b, WoIs own w a hd c n ax p b

structure WoPost (own : Nat → Nat) (w w' : World) (a hd n : Nat) (c : Cf) : Prop where
  ex : ∃ own', WoAt own' w' a hd n c ∧ Fr WTag own own' w w'

end Go.Proofs.Ytnkicbopebgppaa

/-! A frame arrives that is none. -/
namespace Go.Proofs.Ytnkicbopebgppaa
open Go.RowKit Fl

theorem WoIs.later {own : Nat → Nat} {w : World} {a hd n ax : Nat} {c : Cf} {p : Pt} {b : Bo} (h : WoIs own w a hd c n ax p b) {m : Nat} (hm : n ≤ m) : WoIs own w a hd c m ax p b :=
  ⟨h.bo, h.pt, h.jk, h.cok, h.jb, h.bd, Nat.le_trans h.ids hm⟩
theorem WoAt.post {own : Nat → Nat} {w : World} {a hd n : Nat} {c : Cf} (h : WoAt own w a hd n c) {m : Nat} (hm : n ≤ m) : WoPost own w w a hd m c := by
  obtain ⟨ax, p, b, h⟩ := h
  exact ⟨own, ⟨ax, p, b, h.later hm⟩, Fr.refl _ _ _⟩

theorem evs_nil (w : World) : (Go.binOp BinOp.eql 48 (Value.slice none 0 0) (Value.slice none 0 0)).run Try.prog w = Result.ok (Value.bool true) w := Lib.run_eql_slice_nil_nil w _ _ Try.underlying48
theorem not_empty {t : ByteArray} (h : 1 ≤ t.size) : t.toList.isEmpty = false := by
  rw [ByteArray.toList_eq]
  cases h2 : t.data.toList with
  | nil =>
    have h3 : t.size = t.data.toList.length := by simp
    rw [h3, h2] at h
    exact absurd h (by decide)
  | cons a l => rfl

set_option maxRecDepth 100000 in
set_option maxHeartbeats 3200000 in
theorem arrives_empty (own : Nat → Nat) (a hd n : Nat) (c : Cf) (t : ByteArray) (able : Bool) (w : World) (h : WoAt own w a hd n c) (ht : t = ⟨#[]⟩) :
    Calls Try.prog 18 #[.pointer (some ⟨a, 0, none⟩), .string t, .bool able] w fun e w' => e = .returned (.tuple #[]) ∧ WoPost own w w' a hd (n + 1) c := by
  subst ht
  have HW : Bx _ := ⟨h.post (Nat.le_succ n)⟩
  obtain ⟨ax, p, b, h⟩ := h
  obtain ⟨vF, vH, g, hb⟩ := h.bo
  have c13 : w.cell? ⟨a, 13, none⟩ = some (.pointer (some ⟨ax, 0, none⟩)) := hb.cell 13 (by omega)
  have HA : Bx _ := ⟨parrive_empty ax ⟨#[]⟩ w rfl⟩
  have hnil := evs_nil
  clear h hb
  go_enter Try.func18, Try.ntmps18
  go_wp2_with fail
  refine HA.out.mono ?_
  rintro e w1 ⟨rfl, rfl⟩
  go_wp2_with fail
  refine (is_yes a _ _).mono ?_
  rintro e w2 ⟨rfl, rfl⟩
  go_wp2_with fail
  refine bodyPost_ret (v := .tuple #[]) (by simp [results, Try.results18, go_sem]) rfl ⟨rfl, HW.out⟩

set_option maxRecDepth 100000 in
set_option maxHeartbeats 3200000 in
theorem arrives_long (own : Nat → Nat) (a hd n : Nat) (c : Cf) (ax : Nat) (p : Pt) (b : Bo) (t : ByteArray) (able : Bool) (w : World) (h : WoIs own w a hd c n ax p b) (ht1 : 1 ≤ t.size) (ht : p.c.length < t.size) :
    Calls Try.prog 18 #[.pointer (some ⟨a, 0, none⟩), .string t, .bool able] w fun e w' => e = .returned (.tuple #[]) ∧ WoPost own w w' a hd (n + 1) c := by
  have HW : Bx _ := ⟨WoAt.post ⟨ax, p, b, h⟩ (Nat.le_succ n)⟩
  obtain ⟨vF, vH, g, hb⟩ := h.bo
  have hon : b.on = p.c := (h.jb 0).j.jq.on
  have c13 : w.cell? ⟨a, 13, none⟩ = some (.pointer (some ⟨ax, 0, none⟩)) := hb.cell 13 (by omega)
  have c18 : w.cell? ⟨a, 18, none⟩ = some (.int .i64 b.on.length) := hb.cell 18 (by omega)
  rw [hon] at c18
  have HA : Bx _ := ⟨parrive_long own 100 ax _ p t w h.pt ht1 ht⟩
  have hne := not_empty ht1
  have hnil := evs_nil
  have i1 : (p.c.length : Int) < t.size := by omega
  clear h hb hon
  go_enter Try.func18, Try.ntmps18
  go_wp2_with fail
  refine HA.out.mono ?_
  rintro e w1 ⟨rfl, rfl⟩
  go_wp2_with fail
  refine (is_yes a _ _).mono ?_
  rintro e w2 ⟨rfl, rfl⟩
  go_wp2_with fail
  refine bodyPost_ret (v := .tuple #[]) (by simp [results, Try.results18, go_sem]) rfl ⟨rfl, HW.out⟩

/-- All that is known of a frame that joins. -/
structure ArF (p : Pt) (b : Bo) (t : ByteArray) (able : Bool) (k : Nat) (p' : Pt) (l : List Ev) : Prop where
  kb : k < p.c.buckets
  on : b.on = p.c
  len : b.f.length = p.ids
  t2 : t.size ≤ 200
  ll : l.length ≤ 16777216
  ev : ∀ e ∈ l, e.b < p'.c.buckets ∧ e.s.size ≤ 200
  id : ∀ e ∈ l, e.id = p.ids → e.b = k
  sz : ∀ i, i < p'.c.buckets → qBytes (p'.bk i).q + goneOf i l = b.size i + if i = k then t.size else 0
  s2 : ∀ i, i < p.c.buckets → b.size i ≤ 13000
  ok : p'.ok
  cc : p'.c = p.c
  now : p'.now = p.now
  ids : p'.ids = p.ids + 1
  he : b.here.length ≤ 64
  hE : ∀ hd, EvsOk hd p'.now (b.joins k (b.claimed k t p.now able)).clears l
  hB : ∀ i (h : i < l.length), EvB (((b.joins k (b.claimed k t p.now able)).clears).events (l.take i)) l[i]
  hS : ∀ hd, StOk hd p' (((b.joins k (b.claimed k t p.now able)).clears).events l)
  hT : StB (((b.joins k (b.claimed k t p.now able)).clears).events l)
  jb : ∀ hd, JB hd p' ((((b.joins k (b.claimed k t p.now able)).clears).events l).stands p'.busy)
  bd : BdB (200 * p'.done.length) ((((b.joins k (b.claimed k t p.now able)).clears).events l).stands p'.busy)

theorem arF_of {p : Pt} {b : Bo} (hJ : ∀ hd, JB hd p b) (hbd : BdB (200 * p.done.length) b) (hids : p.ids < 16777216) (k : Nat) (t : ByteArray) (hk : place p.c t = k) (h1 : 1 ≤ t.size) (h2 : t.size ≤ p.c.length) (able : Bool) (hable : able = true → canB t = true) (p' : Pt) (hp : p.arrive t = p') (l : List Ev) (hl : p'.done = p.done ++ l) : ArF p b t able k p' l := by
  obtain ⟨g1, g2, g3, g4⟩ := JB.arriveAll hJ k t hk h1 h2 able hable p' hp l hl
  have hok := (hJ 0).ok
  have f64 := (hJ 0).f64
  obtain ⟨o1, _, o3, o4, o5, _⟩ := p.arrive_ok hok f64 t h1 h2
  rw [hp] at o1 o3 o4 o5
  have jq := (hJ 0).j.jq
  have hon : b.on = p.c := jq.on
  have hlen : b.f.length = p.ids := jq.len
  have hl2 := hok.c.l2
  have s2 : ∀ i, i < p.c.buckets → b.size i ≤ 13000 := by
    intro i hi
    have e : b.size i = qBytes (p.bk i).q := jq.size i hi
    have h3 := qBytes_le _ (hok.by i)
    have h4 := hok.len i hi
    omega
  have he : b.here.length ≤ 64 := by
    have h3 := jq.cnt
    have h4 : b.here.filter (fun id => !(b.fr id).gone) = b.here := List.filter_eq_self.2 (fun id hid => by rw [(hJ 0).here id hid]; rfl)
    rw [h4] at h3
    have h5 : b.here.length = framesTo p.bk p.c.buckets := by rw [← framesQ_bk]; exact h3
    have h6 : framesTo p.bk p.c.buckets = p.frames := rfl
    omega
  have hcs : (b.claimed k t p.now able).s = t := (b.claimed_plain k t p.now able).1
  have hjs : ∀ i, i < p.c.buckets → ((b.joins k (b.claimed k t p.now able)).clears).size i ≤ 20000 := by
    intro i hi
    show setAt b.size k (b.size k + (b.claimed k t p.now able).s.size) i ≤ 20000
    by_cases e : i = k
    · have := s2 k g1
      rw [e, setAt_same, hcs]; omega
    · have := s2 i hi
      rw [setAt_other _ _ _ _ e]; omega
  obtain ⟨b1, b2, b3⟩ := Went.bounds (N := p.now) g2 ((hbd.joins k _).clears) o1 (by omega) hok.now (by intro i hi; exact hjs i (by have e : ((b.joins k (b.claimed k t p.now able)).clears).on = p.c := hon; rw [e] at hi; exact hi))
    (by show (b.here ++ [b.f.length]).length ≤ 1000; rw [List.length_append]; simp; omega) (by show (b.f ++ [_]).length ≤ 16777216; rw [List.length_append]; simp; omega) (by show b.on.ok; rw [hon]; exact hok.c)
  have hdn := o1.dn
  have hdl : p'.done.length = p.done.length + l.length := by rw [hl, List.length_append]
  have hE := fun hd => (g2 hd).ok
  refine ⟨g1, hon, hlen, by omega, by omega, ?_, g3, by rw [o3]; exact g4, s2, o1, o3, o4, o5, he, by rw [o4]; exact hE, b1, fun hd => (g2 hd).st, b2, fun hd => (g2 hd).jb, b3⟩
  intro e hm
  obtain ⟨i, hi, rfl⟩ := List.getElem_of_mem hm
  have hk2 := (hE 0).at i hi
  have h5 := hk2.bu
  rw [events_on] at h5
  have h6 := hk2.sz
  have h7 := hk2.small
  refine ⟨?_, by omega⟩
  have e : ((b.joins k (b.claimed k t p.now able)).clears).on = p.c := hon
  rw [e] at h5
  rw [o3]; exact h5

end Go.Proofs.Ytnkicbopebgppaa

/-! A frame arrives: where the law stands on its way. -/
namespace Go.Proofs.Ytnkicbopebgppaa
open Go.RowKit Fl

section
variable {own own' : Nat → Nat} {w w' : World} {a hd : Nat} {c : Cf} {ax : Nat} {vF vH : Value} {g : Nat → Nat} {b : Bo}

theorem BoIs.n8 (h : BoIs own w a hd c ax vF vH g b) (t : Nat) (h9 : t ≠ 9) (h11 : t ≠ 11) : ¬ t = g 8 := by
  rcases h.th with e | e <;> rw [e] <;> assumption

/-- The list of those that wait grows. -/
theorem BoIs.hereGrow (h : BoIs own w a hd c ax vF vH g b) (k1 : Fr (fun x => x = g 8) own own' w w') (v : Value) (L : List Nat) (hs : Sl anyC own' w' (g 8) 1 v L.length (natCells L)) :
    BoIs own' (w'.setCell ⟨a, 25, none⟩ v) a hd c ax vF v g { b with here := L } ∧ Fr BTag own own' w (w'.setCell ⟨a, 25, none⟩ v) := by
  have hr := h.row.fr k1 (h.n8 2 (by omega) (by omega))
  have k2 : Fr (fun t => t = 2) own' own' w' (w'.setCell ⟨a, 25, none⟩ v) := (Fr.refl _ own' w').setCell a _ _ hr.tag
  refine ⟨⟨(hr.set 25 v).congr (fun i hi => ?_), (h.f.fr k1 (h.n8 10 (by omega) (by omega))).fr k2 (by show ¬ 10 = 2; omega), hs.fr k2 (fun e => h.n8 2 (by omega) (by omega) e.symm), (h.la.fr k1 (h.n8 12 (by omega) (by omega))).fr k2 (by show ¬ 12 = 2; omega), (h.se.fr k1 (h.n8 13 (by omega) (by omega))).fr k2 (by show ¬ 13 = 2; omega), (h.tu.fr k1 (h.n8 14 (by omega) (by omega))).fr k2 (by show ¬ 14 = 2; omega), (h.us.fr k1 (h.n8 15 (by omega) (by omega))).fr k2 (by show ¬ 15 = 2; omega), (h.si.fr k1 (h.n8 16 (by omega) (by omega))).fr k2 (by show ¬ 16 = 2; omega), (h.le.fr k1 (h.n8 17 (by omega) (by omega))).fr k2 (by show ¬ 17 = 2; omega), (h.ov.fr k1 (h.n8 18 (by omega) (by omega))).fr k2 (by show ¬ 18 = 2; omega), (h.pa.fr k1 (h.n8 19 (by omega) (by omega))).fr k2 (by show ¬ 19 = 2; omega), h.th⟩, (k1.mono (fun t e => ?_)).trans (k2.mono (fun t e => by rw [e]; exact ⟨by omega, by omega⟩))⟩
  · revert i
    exact all37 rfl rfl rfl rfl rfl rfl rfl rfl rfl rfl rfl rfl rfl rfl rfl rfl rfl rfl rfl rfl rfl rfl rfl rfl rfl rfl rfl rfl rfl rfl rfl rfl rfl rfl rfl rfl rfl
  · rcases h.th with e8 | e8 <;> rw [e8] at e <;> rw [e] <;> exact ⟨by omega, by omega⟩

/-- The list of frames grows. -/
theorem BoIs.fGrow (h : BoIs own w a hd c ax vF vH g b) (k1 : Fr (fun x => x = 10) own own' w w') (v : Value) (L : List Fq) (hs : Sl anyC own' w' 10 6 v L.length (fqCells L)) :
    BoIs own' (w'.setCell ⟨a, 24, none⟩ v) a hd c ax v vH g { b with f := L } ∧ Fr BTag own own' w (w'.setCell ⟨a, 24, none⟩ v) := by
  have hr := h.row.fr k1 (show ¬ 2 = 10 by omega)
  have k2 : Fr (fun t => t = 2) own' own' w' (w'.setCell ⟨a, 24, none⟩ v) := (Fr.refl _ own' w').setCell a _ _ hr.tag
  refine ⟨⟨(hr.set 24 v).congr (fun i hi => ?_), hs.fr k2 (by show ¬ 10 = 2; omega), (h.here.fr k1 (fun e => h.n8 10 (by omega) (by omega) e.symm)).fr k2 (fun e => h.n8 2 (by omega) (by omega) e.symm), (h.la.fr k1 (show ¬ 12 = 10 by omega)).fr k2 (by show ¬ 12 = 2; omega), (h.se.fr k1 (show ¬ 13 = 10 by omega)).fr k2 (by show ¬ 13 = 2; omega), (h.tu.fr k1 (show ¬ 14 = 10 by omega)).fr k2 (by show ¬ 14 = 2; omega), (h.us.fr k1 (show ¬ 15 = 10 by omega)).fr k2 (by show ¬ 15 = 2; omega), (h.si.fr k1 (show ¬ 16 = 10 by omega)).fr k2 (by show ¬ 16 = 2; omega), (h.le.fr k1 (show ¬ 17 = 10 by omega)).fr k2 (by show ¬ 17 = 2; omega), (h.ov.fr k1 (show ¬ 18 = 10 by omega)).fr k2 (by show ¬ 18 = 2; omega), (h.pa.fr k1 (show ¬ 19 = 10 by omega)).fr k2 (by show ¬ 19 = 2; omega), h.th⟩, (k1.mono (fun t e => by rw [e]; exact ⟨by omega, by omega⟩)).trans (k2.mono (fun t e => by rw [e]; exact ⟨by omega, by omega⟩))⟩
  revert i
  exact all37 rfl rfl rfl rfl rfl rfl rfl rfl rfl rfl rfl rfl rfl rfl rfl rfl rfl rfl rfl rfl rfl rfl rfl rfl rfl rfl rfl rfl rfl rfl rfl rfl rfl rfl rfl rfl rfl
end

/-- The law on its way through a step: the port has answered, the book is being written. -/
structure ArW (own : Nat → Nat) (w : World) (ownr : Nat → Nat) (wr : World) (a hd : Nat) (c : Cf) (ax : Nat) (vF vH : Value) (g : Nat → Nat) (b : Bo) (p : Pt) (l : List Ev) (v : Value) : Prop where
  bo : BoIs ownr wr a hd c ax vF vH g b
  pt : PtAt ownr wr 100 ax p
  sl : Sl evG ownr wr 50 5 v l.length (evCells l)
  jk : Junk ownr wr
  fr : Fr WTag own ownr w wr

section
variable {own : Nat → Nat} {w : World} {o1 o2 : Nat → Nat} {w1 w2 : World} {a hd : Nat} {c : Cf} {ax : Nat} {vF vH : Value} {g : Nat → Nat} {b : Bo} {p : Pt} {l : List Ev} {v : Value}

theorem ArW.below (h : ArW own w o1 w1 a hd c ax vF vH g b p l v) (hb : p.c.buckets ≤ 16) (k : Below w1.heap.size w1 w2) : ArW own w o1 w2 a hd c ax vF vH g b p l v :=
  ⟨h.bo.below k, h.pt.fr hb (Fr.below k), h.sl.below k, (Fr.below (T := WTag) k).junk h.jk, h.fr.trans (Fr.below k)⟩

theorem ArW.book (h : ArW own w o1 w1 a hd c ax vF vH g b p l v) (hb : p.c.buckets ≤ 16) {vF' vH' : Value} {g' : Nat → Nat} {b' : Bo} (k : BoIs o2 w2 a hd c ax vF' vH' g' b' ∧ Fr BTag o1 o2 w1 w2) : ArW own w o2 w2 a hd c ax vF' vH' g' b' p l v :=
  ⟨k.1, h.pt.fr hb k.2, h.sl.fr k.2 (by show ¬ (2 ≤ 50 ∧ 50 < 20); omega), k.2.junk h.jk, h.fr.trans (k.2.mono (fun t ht => by show t ≠ 0; have := ht.1; omega))⟩
end

/-- Behind the making of a box and stores into it, all that was there is kept. -/
theorem Only.belowNew {w w2 w3 : World} (o : Obj) (h2 : w2 = w.alloc o) (h : Only w.heap.size w2 w3) : Below w.heap.size w w3 := by
  subst h2
  refine ⟨h.os, h.tape, h.output, ?_, fun i hi => ?_⟩
  · have := h.size
    have e : (w.alloc o).heap.size = w.heap.size + 1 := by simp
    omega
  · have e : (w.alloc o).heap.size = w.heap.size + 1 := by simp
    exact (h.block i (by omega) (by omega)).trans (Below.heap_alloc _ _ _ hi)

end Go.Proofs.Ytnkicbopebgppaa
