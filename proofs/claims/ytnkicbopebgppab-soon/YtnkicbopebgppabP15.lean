import Derived.Test.YtnkicbopebgppabP11
import Derived.Test.YtnkicbopebgppabP12
import Derived.Test.YtnkicbopebgppabP13
import Derived.Test.YtnkicbopebgppabP14
import Derived.Test.YtnkicbopebgppabP10
/-! Events are booked, one behind the other. -/
namespace Go.Proofs.Ytnkicbopebgppab
open Go.RowKit Fl

theorem event_any (own : Nat → Nat) (a hd : Nat) (c : Cf) (ax : Nat) (p : Pt) (ge oe : Nat) (e : Ev) (b : Bo) (w : World) (h : BoAt own w a hd c ax b) (hp : PtAt own w 100 ax p) (he : EvAt w ge oe e) (hge : own ge = 50) (hlt : ge < w.heap.size) (hE : ∀ hd, EvOk hd p.now b e) (hB : EvB b e) (hH : HonestIs) :
    Calls Try.prog 38 #[.pointer (some ⟨a, 0, none⟩), .pointer (some ⟨ge, oe, none⟩)] w fun r w' => r = .returned (.tuple #[]) ∧ BoAt own w' a hd c ax (b.event e) ∧ Fr BTag own own w w' := by
  obtain ⟨k1, k2⟩ := (hE 0).kd
  by_cases e1 : e.kind = 1
  · exact event_sent own a hd c ax p ge oe e b w h hp he hge hlt hE hB e1
  · by_cases e2 : e.kind = 2
    · exact event_marked own a hd c ax p ge oe e b w h hp he hge hlt hE hB e2 hH
    · by_cases e3 : e.kind = 3
      · exact event_over own a hd c ax p ge oe e b w h hp he hge hlt hE hB e3
      · by_cases e4 : e.kind = 4
        · exact event_delayed own a hd c ax p ge oe e b w h hp he hge hlt hE hB e4
        · exact event_flushed own a hd c ax p ge oe e b w h hp he hge hlt hE hB (by omega)

theorem EvsOk.at {hd N : Nat} : ∀ {l : List Ev} {b : Bo}, EvsOk hd N b l → ∀ i (h : i < l.length), EvOk hd N (b.events (l.take i)) l[i]
  | [], _, _, i, h => by simp at h
  | e :: l, b, hk, 0, _ => hk.1
  | e :: l, b, hk, i + 1, h => EvsOk.at (l := l) hk.2 i (by simpa using h)

theorem events_take (b : Bo) (l : List Ev) (i : Nat) (h : i < l.length) : b.events (l.take (i + 1)) = (b.events (l.take i)).event l[i] := by
  rw [List.take_add_one, List.getElem?_eq_getElem h, Bo.events_append]; rfl

theorem evAt_of (l : List Ev) {own : Nat → Nat} {w : World} {ge off cap : Nat} (h : Sl evG own w 50 5 (.slice (some ⟨ge, off, none⟩) l.length cap) l.length (evCells l)) (i : Nat) (hi : i < l.length) : EvAt w ge (off + i * 5) l[i] := by
  obtain ⟨_, _, _, hc, _⟩ := Sl.at h
  have F : ∀ j u, j < 5 → l[i].cells[j]? = some u → w.cell? ⟨ge, off + (i * 5 + j), none⟩ = some u := by
    intro j u hj hu
    refine hc _ u ?_
    have g : ∀ (l : List Ev) (i : Nat) (h : i < l.length), (evCells l)[i * 5 + j]? = l[i].cells[j]? := by
      intro l
      induction l with
      | nil => intro i h; simp at h
      | cons e l ih =>
        intro i h
        have e1 : evCells (e :: l) = e.cells ++ evCells l := rfl
        have e5 : e.cells.length = 5 := rfl
        match i, h with
        | 0, _ =>
          rw [e1, List.getElem?_append_left (by rw [e5]; omega), Nat.zero_mul, Nat.zero_add]
          rfl
        | i + 1, h =>
          rw [e1, List.getElem?_append_right (by rw [e5]; omega), e5, show (i + 1) * 5 + j - 5 = i * 5 + j by omega, ih i (by simpa using h)]
          rfl
    rw [g l i hi]
    exact hu
  exact ⟨F 0 _ (by omega) rfl, F 1 _ (by omega) rfl, F 2 _ (by omega) rfl, F 3 _ (by omega) rfl, F 4 _ (by omega) rfl⟩

/-- The same where only what is behind the buckets differs. -/
theorem BoIs.congr {own : Nat → Nat} {w : World} {a hd : Nat} {c : Cf} {ax : Nat} {vF vH : Value} {g : Nat → Nat} {b b' : Bo} (h : BoIs own w a hd c ax vF vH g b) (e0 : b'.on = b.on) (e1 : b'.f = b.f) (e2 : b'.here = b.here) (e3 : b'.till = b.till) (e4 : b'.old = b.old) (e5 : b'.when_ = b.when_)
    (k1 : ∀ i, i < b.on.buckets → b'.last i = b.last i) (k2 : ∀ i, i < b.on.buckets → b'.sent i = b.sent i) (k3 : ∀ i, i < b.on.buckets → b'.turn i = b.turn i) (k4 : ∀ i, i < b.on.buckets → b'.used i = b.used i) (k5 : ∀ i, i < b.on.buckets → b'.size i = b.size i) (k6 : ∀ i, i < b.on.buckets → b'.left i = b.left i) (k7 : ∀ i, i < b.on.buckets → b'.over i = b.over i) (k8 : ∀ i, i < b.on.buckets * b.on.buckets → b'.pairs i = b.pairs i) :
    BoIs own w a hd c ax vF vH g b' := by
  obtain ⟨on, f, here, till, old, when_, last, sent, turn, used, size, left, over, pairs⟩ := b
  obtain ⟨on', f', here', till', old', when', last', sent', turn', used', size', left', over', pairs'⟩ := b'
  simp only at e0 e1 e2 e3 e4 e5 k1 k2 k3 k4 k5 k6 k7 k8
  subst e0 e1 e2 e3 e4 e5
  refine ⟨h.row, h.f, h.here, h.la.congr (fun i hi => ?_), h.se.congr (fun i hi => ?_), h.tu.congr (fun i hi => ?_), h.us.congr (fun i hi => ?_), h.si.congr (fun i hi => ?_), h.le.congr (fun i hi => ?_), h.ov.congr (fun i hi => ?_), h.pa.congr (fun i hi => ?_), h.th⟩
  · show Value.int .i64 (last i) = .int .i64 (last' i); rw [k1 i hi]
  · show Value.int .i64 (sent i : Nat) = .int .i64 (sent' i : Nat); rw [k2 i hi]
  · show Value.int .i64 (turn i : Nat) = .int .i64 (turn' i : Nat); rw [k3 i hi]
  · show Value.bool (used i) = .bool (used' i); rw [k4 i hi]
  · show Value.int .i64 (size i : Nat) = .int .i64 (size' i : Nat); rw [k5 i hi]
  · show Value.int .i64 (left i : Nat) = .int .i64 (left' i : Nat); rw [k6 i hi]
  · show Value.bool (over i) = .bool (over' i); rw [k7 i hi]
  · have hi' : i < on'.buckets * on'.buckets * 3 := hi
    show prF pairs i = prF pairs' i
    unfold prF
    rw [k8 (i / 3) (by omega)]

end Go.Proofs.Ytnkicbopebgppab

/-! What a bucket lost; two buckets. -/
namespace Go.Proofs.Ytnkicbopebgppab
open Go.RowKit Fl

set_option maxRecDepth 100000 in
set_option maxHeartbeats 3200000 in
theorem overs_any (own : Nat → Nat) (a hd : Nat) (c : Cf) (ax : Nat) (b : Bo) (w : World) (h : BoAt own w a hd c ax b) (hn : b.on.buckets ≤ 16) (hs : ∀ i, i < b.on.buckets → b.size i ≤ 1099511627776 ∧ b.left i ≤ 1099511627776) (hJ : JL b.on.buckets b) :
    Calls Try.prog 56 #[.pointer (some ⟨a, 0, none⟩)] w fun e w' => e = .returned (.bool true) ∧ Below w.heap.size w w' := by
  obtain ⟨vF, vH, g, h⟩ := h
  have H : Bx _ := ⟨h⟩
  have HJ : Bx _ := ⟨hJ⟩
  have HS : Bx _ := ⟨hs⟩
  clear h hJ hs
  go_enter Try.func56, Try.ntmps56
  go_wp2_with fail
  go_loopg [3, 4] b.on.buckets (fun r v3 _ wr => ∃ k : Nat, v3 = .int .i64 k ∧ k + r = b.on.buckets ∧ Below w.heap.size w wr)
  case atStart => exact ⟨0, rfl, by omega, Below.refl _ _⟩
  case round =>
    obtain ⟨k, rfl, hk, hb⟩ := hrel
    have h1 := H.out.below hb
    have c14 : wr.cell? ⟨a, 14, none⟩ = some (.int .i64 b.on.buckets) := h1.cell 14 (by omega)
    have HB : Bx _ := ⟨hb⟩
    clear hb
    by_cases hlt : k < b.on.buckets
    · obtain ⟨r', rfl⟩ : ∃ r', gk = r' + 1 := ⟨gk - 1, by omega⟩
      have i1 : (k : Int) < b.on.buckets := by omega
      have c35 : wr.cell? ⟨a, 35, none⟩ = some (.slice (some ⟨g 6, 0, none⟩) b.on.buckets b.on.buckets) := h1.cell 35 (by omega)
      have ov : wr.cell? ⟨g 6, k, none⟩ = some (.bool (b.over k)) := h1.ov.row.cell hlt
      clear h1
      cases hov : b.over k with
      | false =>
        rw [hov] at ov
        go_wp2_with fail
        go_roundg r'
        case rel => exact ⟨k + 1, by go_num, by omega, HB.out⟩
        case measure => omega
      | true =>
        rw [hov] at ov
        go_wp2_with fail
        clear c14 c35 ov
        go_loopg [4] b.on.buckets (fun q v4 wx => ∃ j : Nat, v4 = .int .i64 j ∧ j + q = b.on.buckets ∧ Below w.heap.size w wx)
        case atStart => exact ⟨0, rfl, by omega, HB.out⟩
        case round =>
          clear HB
          obtain ⟨j, rfl, hj, hb2⟩ := hrel
          have h2 := H.out.below hb2
          have c14 : wr.cell? ⟨a, 14, none⟩ = some (.int .i64 b.on.buckets) := h2.cell 14 (by omega)
          have HB2 : Bx _ := ⟨hb2⟩
          clear hb2
          by_cases hjl : j < b.on.buckets
          · obtain ⟨q', rfl⟩ : ∃ q', gk = q' + 1 := ⟨gk - 1, by omega⟩
            have i2 : (j : Int) < b.on.buckets := by omega
            have c33 : wr.cell? ⟨a, 33, none⟩ = some (.slice (some ⟨g 4, 0, none⟩) b.on.buckets b.on.buckets) := h2.cell 33 (by omega)
            have c34 : wr.cell? ⟨a, 34, none⟩ = some (.slice (some ⟨g 5, 0, none⟩) b.on.buckets b.on.buckets) := h2.cell 34 (by omega)
            have s1 : wr.cell? ⟨g 4, j, none⟩ = some (.int .i64 (b.size j : Nat)) := h2.si.row.cell hjl
            have s2 : wr.cell? ⟨g 4, k, none⟩ = some (.int .i64 (b.size k : Nat)) := h2.si.row.cell hlt
            have s3 : wr.cell? ⟨g 5, k, none⟩ = some (.int .i64 (b.left k : Nat)) := h2.le.row.cell hlt
            obtain ⟨t1, t2⟩ := HS.out k hlt
            obtain ⟨t3, _⟩ := HS.out j hjl
            have t4 := HJ.out k hlt hov j hjl
            have t5 : ¬ ((b.size k : Nat) : Int) + (b.left k : Nat) < (b.size j : Nat) := by omega
            clear h2
            go_wp2_with fail
            go_quiet (fail)
            go_wp2_with fail
            go_roundg q'
            case rel => exact ⟨j + 1, by go_num, by omega, HB2.out.drewN _⟩
            case measure => omega
          · have i2 : ¬ (j : Int) < b.on.buckets := by omega
            clear h2
            go_wp2_with fail
            go_roundg r'
            case rel => exact ⟨k + 1, by go_num, by omega, HB2.out⟩
            case measure => omega
    · have i1 : ¬ (k : Int) < b.on.buckets := by omega
      clear h1
      go_wp2_with fail
      go_ret
      exact ⟨rfl, HB.out⟩

end Go.Proofs.Ytnkicbopebgppab

/-! Of two buckets: the walk. -/
namespace Go.Proofs.Ytnkicbopebgppab
open Go.RowKit Fl

theorem prF_at (P : Nat → Pr) (m : Nat) : prF P (m * 3) = .bool (P m).on ∧ prF P (m * 3 + 1) = .int .i64 (P m).least ∧ prF P (m * 3 + 2) = .int .i64 (P m).most := by
  unfold prF
  rw [show m * 3 % 3 = 0 by omega, show m * 3 / 3 = m by omega, show (m * 3 + 1) % 3 = 1 by omega, show (m * 3 + 1) / 3 = m by omega, show (m * 3 + 2) % 3 = 2 by omega, show (m * 3 + 2) / 3 = m by omega]
  exact ⟨rfl, rfl, rfl⟩

theorem prF_set (P : Nat → Pr) (m j : Nat) (u : Value) (q : Pr) (h0 : j ≠ 0 → q.on = (P m).on) (h1 : j ≠ 1 → q.least = (P m).least) (h2 : j ≠ 2 → q.most = (P m).most) (hu : prF (setAt P m q) (m * 3 + j) = u) (i : Nat) : (if i = m * 3 + j then u else prF P i) = prF (setAt P m q) i := by
  by_cases e : i = m * 3 + j
  · rw [if_pos e, e, hu]
  · rw [if_neg e]
    by_cases em : i / 3 = m
    · have hi : i = m * 3 + i % 3 := by omega
      have hr : i % 3 < 3 := Nat.mod_lt _ (by omega)
      unfold prF
      rw [em, setAt_same]
      have hne : i % 3 ≠ j := by omega
      by_cases r0 : i % 3 = 0
      · rw [if_pos r0, if_pos r0, h0 (by omega)]
      · rw [if_neg r0, if_neg r0]
        by_cases r1 : i % 3 = 1
        · rw [if_pos r1, if_pos r1, h1 (by omega)]
        · rw [if_neg r1, if_neg r1, h2 (by omega)]
    · unfold prF
      rw [setAt_other _ _ _ _ em]

section
variable {own : Nat → Nat} {w : World} {a hd : Nat} {c : Cf} {ax : Nat} {vF vH : Value} {g : Nat → Nat} {b : Bo}

theorem BoIs.paSet (h : BoIs own w a hd c ax vF vH g b) (m j : Nat) (u : Value) (q : Pr) (h0 : j ≠ 0 → q.on = (b.pairs m).on) (h1 : j ≠ 1 → q.least = (b.pairs m).least) (h2 : j ≠ 2 → q.most = (b.pairs m).most) (hu : prF (setAt b.pairs m q) (m * 3 + j) = u) :
    BoIs own (w.setCell ⟨g 7, m * 3 + j, none⟩ u) a hd c ax vF vH g { b with pairs := setAt b.pairs m q } ∧ Fr BTag own own w (w.setCell ⟨g 7, m * 3 + j, none⟩ u) := by
  have k : Fr (fun t => t = 19) own own w (w.setCell ⟨g 7, m * 3 + j, none⟩ u) := (Fr.refl _ own w).setCell (g 7) _ _ h.pa.tag
  refine ⟨⟨h.row.fr k (by show ¬ 2 = 19; omega), h.f.fr k (by show ¬ 10 = 19; omega), h.here.fr k (by show ¬ g 8 = 19; rcases h.th with e | e <;> rw [e] <;> omega), h.la.fr k (by show ¬ 12 = 19; omega), h.se.fr k (by show ¬ 13 = 19; omega), h.tu.fr k (by show ¬ 14 = 19; omega), h.us.fr k (by show ¬ 15 = 19; omega), h.si.fr k (by show ¬ 16 = 19; omega), h.le.fr k (by show ¬ 17 = 19; omega), h.ov.fr k (by show ¬ 18 = 19; omega), ?_, h.th⟩, k.mono (fun t e => by rw [e]; exact ⟨by omega, by omega⟩)⟩
  exact (h.pa.set _ u).congr (fun i _ => prF_set b.pairs m j u q h0 h1 h2 hu i)

theorem BoIs.paOn (h : BoIs own w a hd c ax vF vH g b) (m : Nat) (x : Bool) : BoIs own (w.setCell ⟨g 7, m * 3, none⟩ (.bool x)) a hd c ax vF vH g { b with pairs := setAt b.pairs m { b.pairs m with on := x } } ∧ Fr BTag own own w (w.setCell ⟨g 7, m * 3, none⟩ (.bool x)) :=
  h.paSet m 0 (.bool x) { b.pairs m with on := x } (fun e => absurd rfl e) (fun _ => rfl) (fun _ => rfl) (by rw [Nat.add_zero, (prF_at _ _).1, setAt_same])
theorem BoIs.paLeast (h : BoIs own w a hd c ax vF vH g b) (m : Nat) (x : Int) : BoIs own (w.setCell ⟨g 7, m * 3 + 1, none⟩ (.int .i64 x)) a hd c ax vF vH g { b with pairs := setAt b.pairs m { b.pairs m with least := x } } ∧ Fr BTag own own w (w.setCell ⟨g 7, m * 3 + 1, none⟩ (.int .i64 x)) :=
  h.paSet m 1 (.int .i64 x) { b.pairs m with least := x } (fun _ => rfl) (fun e => absurd rfl e) (fun _ => rfl) (by rw [(prF_at _ _).2.1, setAt_same])
theorem BoIs.paMost (h : BoIs own w a hd c ax vF vH g b) (m : Nat) (x : Int) : BoIs own (w.setCell ⟨g 7, m * 3 + 2, none⟩ (.int .i64 x)) a hd c ax vF vH g { b with pairs := setAt b.pairs m { b.pairs m with most := x } } ∧ Fr BTag own own w (w.setCell ⟨g 7, m * 3 + 2, none⟩ (.int .i64 x)) :=
  h.paSet m 2 (.int .i64 x) { b.pairs m with most := x } (fun _ => rfl) (fun _ => rfl) (fun e => absurd rfl e) (by rw [(prF_at _ _).2.2, setAt_same])

end

/-- The same book, its pairs told otherwise. -/
theorem BoIs.pairs_eq {own : Nat → Nat} {w : World} {a hd : Nat} {c : Cf} {ax : Nat} {vF vH : Value} {g : Nat → Nat} {b b' : Bo} (h : BoIs own w a hd c ax vF vH g b) (e : b = b') : BoIs own w a hd c ax vF vH g b' := e ▸ h

/-- The pairs up to bucket i, and of bucket i those with buckets below k. -/
def Bo.fairsTo (b : Bo) (i k : Nat) : Bo :=
  { b with pairs := fun m => if m % b.on.buckets < m / b.on.buckets ∧ m / b.on.buckets < b.on.buckets ∧ (m / b.on.buckets < i ∨ m / b.on.buckets = i ∧ m % b.on.buckets < k) then prNext (b.pairs m) (b.size (m / b.on.buckets)) (b.size (m % b.on.buckets)) ((b.sent (m / b.on.buckets) : Int) - b.sent (m % b.on.buckets)) else b.pairs m }

theorem fairsTo_zero (b : Bo) : b.fairsTo 0 0 = b := by
  unfold Bo.fairsTo
  have : (fun m => if m % b.on.buckets < m / b.on.buckets ∧ m / b.on.buckets < b.on.buckets ∧ (m / b.on.buckets < 0 ∨ m / b.on.buckets = 0 ∧ m % b.on.buckets < 0) then prNext (b.pairs m) (b.size (m / b.on.buckets)) (b.size (m % b.on.buckets)) ((b.sent (m / b.on.buckets) : Int) - b.sent (m % b.on.buckets)) else b.pairs m) = b.pairs := by
    funext m
    rw [if_neg (by omega)]
  rw [this]
theorem fairsTo_row (b : Bo) (i : Nat) : b.fairsTo i i = b.fairsTo (i + 1) 0 := by
  unfold Bo.fairsTo
  congr 1
  funext m
  by_cases h : m % b.on.buckets < m / b.on.buckets ∧ m / b.on.buckets < b.on.buckets ∧ (m / b.on.buckets < i ∨ m / b.on.buckets = i ∧ m % b.on.buckets < i)
  · rw [if_pos h, if_pos (by omega)]
  · rw [if_neg h, if_neg (by omega)]
theorem fairsTo_all (b : Bo) : b.fairsTo b.on.buckets 0 = b.fairs := by
  unfold Bo.fairsTo Bo.fairs
  congr 1
  funext m
  by_cases h : m % b.on.buckets < m / b.on.buckets ∧ m / b.on.buckets < b.on.buckets
  · rw [if_pos h, if_pos (by omega)]
  · rw [if_neg h, if_neg (by omega)]
theorem fairsTo_old (b : Bo) (i k : Nat) (hk : k < i) (hi : i < b.on.buckets) : (b.fairsTo i k).pairs (i * b.on.buckets + k) = b.pairs (i * b.on.buckets + k) := by
  obtain ⟨e1, e2⟩ := pair_at b.on.buckets i k (by omega)
  show (if _ then _ else _) = _
  rw [e1, e2, if_neg (by omega)]
theorem fairsTo_step (b : Bo) (i k : Nat) (hk : k < i) (hi : i < b.on.buckets) : ({ b.fairsTo i k with pairs := setAt (b.fairsTo i k).pairs (i * b.on.buckets + k) (prNext (b.pairs (i * b.on.buckets + k)) (b.size i) (b.size k) ((b.sent i : Int) - b.sent k)) } : Bo) = b.fairsTo i (k + 1) := by
  obtain ⟨e1, e2⟩ := pair_at b.on.buckets i k (by omega)
  have hp : setAt (b.fairsTo i k).pairs (i * b.on.buckets + k) (prNext (b.pairs (i * b.on.buckets + k)) (b.size i) (b.size k) ((b.sent i : Int) - b.sent k)) = (b.fairsTo i (k + 1)).pairs := by
    funext m
    show _ = if m % b.on.buckets < m / b.on.buckets ∧ m / b.on.buckets < b.on.buckets ∧ (m / b.on.buckets < i ∨ m / b.on.buckets = i ∧ m % b.on.buckets < k + 1) then prNext (b.pairs m) (b.size (m / b.on.buckets)) (b.size (m % b.on.buckets)) ((b.sent (m / b.on.buckets) : Int) - b.sent (m % b.on.buckets)) else b.pairs m
    by_cases e : m = i * b.on.buckets + k
    · rw [e, setAt_same, e1, e2, if_pos (by omega)]
    · rw [setAt_other _ _ _ _ e]
      show (if m % b.on.buckets < m / b.on.buckets ∧ m / b.on.buckets < b.on.buckets ∧ (m / b.on.buckets < i ∨ m / b.on.buckets = i ∧ m % b.on.buckets < k) then prNext (b.pairs m) (b.size (m / b.on.buckets)) (b.size (m % b.on.buckets)) ((b.sent (m / b.on.buckets) : Int) - b.sent (m % b.on.buckets)) else b.pairs m) = _
      by_cases h : m % b.on.buckets < m / b.on.buckets ∧ m / b.on.buckets < b.on.buckets ∧ (m / b.on.buckets < i ∨ m / b.on.buckets = i ∧ m % b.on.buckets < k)
      · rw [if_pos h, if_pos (by omega)]
      · rw [if_neg h, if_neg ?_]
        intro h2
        apply e
        have h3 := Nat.div_add_mod m b.on.buckets
        have h4 : m / b.on.buckets = i ∧ m % b.on.buckets = k := by omega
        rw [h4.1, h4.2, Nat.mul_comm] at h3
        exact h3.symm
  rw [hp]
  rfl

set_option maxRecDepth 100000 in
set_option maxHeartbeats 6400000 in
theorem fair_any (own : Nat → Nat) (a hd : Nat) (c : Cf) (ax : Nat) (b : Bo) (w : World) (h : BoAt own w a hd c ax b) (hn : b.on.buckets ≤ 16) (hc : b.on.ok) (hs : ∀ i, i < b.on.buckets → b.size i ≤ 1099511627776 ∧ b.sent i ≤ 1099511627776) (hP : ∀ m, (b.pairs m).on = true → -1099511627776 ≤ (b.pairs m).least ∧ (b.pairs m).least ≤ 1099511627776 ∧ -1099511627776 ≤ (b.pairs m).most ∧ (b.pairs m).most ≤ 1099511627776)
    (hF : ∀ i m, m < i → i < b.on.buckets → (b.fairs.pairs (i * b.on.buckets + m)).on = true → (b.fairs.pairs (i * b.on.buckets + m)).most - (b.fairs.pairs (i * b.on.buckets + m)).least ≤ 3 * b.on.quantum + 2 * b.on.length) :
    Calls Try.prog 57 #[.pointer (some ⟨a, 0, none⟩)] w fun e w' => e = .returned (.bool true) ∧ BoAt own w' a hd c ax b.fairs ∧ Fr BTag own own w w' := by
  obtain ⟨vF, vH, g, h⟩ := h
  have c14 : w.cell? ⟨a, 14, none⟩ = some (.int .i64 b.on.buckets) := h.cell 14 (by omega)
  have c15 : w.cell? ⟨a, 15, none⟩ = some (.int .i64 b.on.quantum) := h.cell 15 (by omega)
  have c18 : w.cell? ⟨a, 18, none⟩ = some (.int .i64 b.on.length) := h.cell 18 (by omega)
  have q2 := hc.q2
  have l2 := hc.l2
  have H : Bx _ := ⟨h⟩
  have HF : Bx _ := ⟨hF⟩
  have HP : Bx _ := ⟨hP⟩
  have HS : Bx _ := ⟨hs⟩
  clear h hF hP hs hc
  go_enter Try.func57, Try.ntmps57
  go_wp2_with fail
  go_quiet (fail)
  have HA : Bx (BoIs own (w.drewN nq) a hd c ax vF vH g b ∧ Fr BTag own own w (w.drewN nq)) := ⟨H.out.below ((Below.refl _ _).drewN nq), Fr.below ((Below.refl _ _).drewN nq)⟩
  clear c14 c15 c18
  generalize w.drewN nq = w1 at *
  have c14 : w1.cell? ⟨a, 14, none⟩ = some (.int .i64 b.on.buckets) := HA.out.1.cell 14 (by omega)
  go_wp2_with fail
  clear c14
  go_loopg [5, 6, 7, 8] b.on.buckets (fun r v5 _ _ _ wr => ∃ i : Nat, v5 = .int .i64 i ∧ i + r = b.on.buckets ∧ BoIs own wr a hd c ax vF vH g (b.fairsTo i 0) ∧ Fr BTag own own w wr)
  case atStart => exact ⟨0, rfl, by omega, by rw [fairsTo_zero]; exact HA.out.1, HA.out.2⟩
  case round =>
    clear HA
    obtain ⟨i, rfl, hi, hb, hf⟩ := hrel
    have HB : Bx _ := ⟨And.intro hb hf⟩
    clear hb hf
    by_cases hlt : i < b.on.buckets
    · obtain ⟨r', rfl⟩ : ∃ r', gk = r' + 1 := ⟨gk - 1, by omega⟩
      have i1 : (i : Int) < b.on.buckets := by omega
      go_wp2_with fail
      go_loopg [6, 7, 8] i (fun q v6 _ _ wx => ∃ k : Nat, v6 = .int .i64 k ∧ k + q = i ∧ BoIs own wx a hd c ax vF vH g (b.fairsTo i k) ∧ Fr BTag own own w wx)
      case atStart => exact ⟨0, rfl, by omega, HB.out.1, HB.out.2⟩
      case round =>
        clear HB
        obtain ⟨k, rfl, hk, hb, hf⟩ := hrel
        by_cases hkl : k < i
        · obtain ⟨q', rfl⟩ : ∃ q', gk = q' + 1 := ⟨gk - 1, by omega⟩
          have i2 : (k : Int) < i := by omega
          have hkn : k < b.on.buckets := by omega
          obtain ⟨im, Him, him, i3⟩ : ∃ im : Nat, Bx (i * b.on.buckets = im) ∧ im ≤ 256 ∧ (i : Int) * (b.on.buckets : Int) = (im : Nat) := ⟨_, ⟨rfl⟩, Nat.le_trans (Nat.mul_le_mul (show i ≤ 16 by omega) hn) (by omega), by simp⟩
          obtain ⟨nn, Hnn, hnn⟩ : ∃ nn : Nat, Bx (b.on.buckets * b.on.buckets = nn) ∧ im + k < nn := ⟨_, ⟨rfl⟩, by
            have h1 := Nat.mul_le_mul_right b.on.buckets (show i + 1 ≤ b.on.buckets by omega)
            rw [Nat.add_mul, Nat.one_mul] at h1
            have := Him.out
            omega⟩
          have hst := fairsTo_step b i k hkl hlt
          have hol := fairsTo_old b i k hkl hlt
          have hfa := fairs_at b i k hkl hlt
          have hFF := HF.out i k hkl hlt
          rw [Him.out] at hst hol hfa hFF
          have c36 : wr.cell? ⟨a, 36, none⟩ = some (.slice (some ⟨g 7, 0, none⟩) (b.on.buckets * b.on.buckets) (b.on.buckets * b.on.buckets)) := hb.cell 36 (by omega)
          rw [Hnn.out] at c36
          have c30 : wr.cell? ⟨a, 30, none⟩ = some (.slice (some ⟨g 1, 0, none⟩) b.on.buckets b.on.buckets) := hb.cell 30 (by omega)
          have c33 : wr.cell? ⟨a, 33, none⟩ = some (.slice (some ⟨g 4, 0, none⟩) b.on.buckets b.on.buckets) := hb.cell 33 (by omega)
          have s1 : wr.cell? ⟨g 1, i, none⟩ = some (.int .i64 (b.sent i : Nat)) := hb.se.row.cell hlt
          have s2 : wr.cell? ⟨g 1, k, none⟩ = some (.int .i64 (b.sent k : Nat)) := hb.se.row.cell hkn
          have s3 : wr.cell? ⟨g 4, i, none⟩ = some (.int .i64 (b.size i : Nat)) := hb.si.row.cell hlt
          have s4 : wr.cell? ⟨g 4, k, none⟩ = some (.int .i64 (b.size k : Nat)) := hb.si.row.cell hkn
          have hx : (im + k) * 3 + 2 < b.on.buckets * b.on.buckets * 3 := by rw [Hnn.out]; omega
          have p0 : wr.cell? ⟨g 7, (im + k) * 3, none⟩ = some (.bool (b.pairs (im + k)).on) := (hb.pa.row.cell (show (im + k) * 3 < b.on.buckets * b.on.buckets * 3 by omega)).trans (by rw [(prF_at _ _).1, hol])
          have p1 : wr.cell? ⟨g 7, (im + k) * 3 + 1, none⟩ = some (.int .i64 (b.pairs (im + k)).least) := (hb.pa.row.cell (show (im + k) * 3 + 1 < b.on.buckets * b.on.buckets * 3 by omega)).trans (by rw [(prF_at _ _).2.1, hol])
          have p2 : wr.cell? ⟨g 7, (im + k) * 3 + 2, none⟩ = some (.int .i64 (b.pairs (im + k)).most) := (hb.pa.row.cell (show (im + k) * 3 + 2 < b.on.buckets * b.on.buckets * 3 by omega)).trans (by rw [(prF_at _ _).2.2, hol])
          have pz := hb.pa.row.frozen
          obtain ⟨t1, t2⟩ := HS.out i hlt
          obtain ⟨t3, t4⟩ := HS.out k hkn
          have tga := hb.row.tag; have tg1 := hb.se.tag; have tg4 := hb.si.tag; have tg7 := hb.pa.tag
          have HB : Bx _ := ⟨And.intro hb hf⟩
          have HPP := HP.out (im + k)
          have i4 : ((im : Int) + k) < (nn : Nat) := by omega
          clear hb hf hx tga tg1 tg4 tg7
          obtain ⟨x, Hx⟩ : ∃ x : Nat, Bx (im + k = x) := ⟨_, ⟨rfl⟩⟩
          have i5 : (im : Int) + k = (x : Nat) := by have := Hx.out; omega
          rw [Hx.out] at hst hol hfa hFF p0 p1 p2 HPP
          obtain ⟨PR, HPR⟩ : ∃ PR : Pr, Bx (b.pairs x = PR) := ⟨_, ⟨rfl⟩⟩
          rw [HPR.out] at hst hol hfa p0 p1 p2 HPP
          have i6 : (x : Int) < (nn : Nat) := by omega
          have HST : Bx _ := ⟨hst⟩
          have HOL : Bx _ := ⟨hol⟩
          rw [hfa] at hFF
          have HFF : Bx _ := ⟨hFF⟩
          clear hst hol hfa hFF
          go_wp2_with fail
          go_quiet (fail)
          have HC : Bx (BoIs own (wr.drewN nq) a hd c ax vF vH g (b.fairsTo i k) ∧ Fr BTag own own w (wr.drewN nq)) := ⟨HB.out.1.below ((Below.refl _ _).drewN nq), HB.out.2.trans (Fr.below ((Below.refl _ _).drewN nq))⟩
          have Y : ∀ (p : Addr), (wr.drewN nq).cell? p = wr.cell? p := fun _ => rfl
          have Z : ∀ (p : Addr), (wr.drewN nq).frozen? p = wr.frozen? p := fun _ => rfl
          rw [← Y] at c33 s3 s4 p0 p1 p2
          have pz' : ∀ i, (wr.drewN nq).frozen? ⟨g 7, i, none⟩ = false := pz
          clear pz HB c36 c30 s1 s2 Y Z
          generalize wr.drewN nq = w2 at *
          by_cases z1 : b.size i = 0
          · have E : prNext PR (b.size i) (b.size k) ((b.sent i : Int) - b.sent k) = { PR with on := false } := by unfold prNext; rw [if_pos (.inl z1)]
            have N1 := HC.out.1.paOn x false
            rw [HOL.out, ← E, HST.out] at N1
            have HN : Bx _ := ⟨And.intro N1.1 (HC.out.2.trans N1.2)⟩
            rw [z1] at s3
            clear N1 HC E
            go_wp2_with fail
            go_roundg q'
            case rel => exact ⟨k + 1, by go_num, by omega, HN.out.1, HN.out.2⟩
            case measure => omega
          · have z1' : ¬ ((b.size i : Nat) : Int) = 0 := by omega
            have g1 : (((b.size i : Nat) : Int) == 0) = false := by simp; omega
            have g2 : decide (((b.size i : Nat) : Int) = 0) = false := by simp; omega
            have g3 : decide (b.size i = 0) = false := by simp; omega
            by_cases z2 : b.size k = 0
            · have E : prNext PR (b.size i) (b.size k) ((b.sent i : Int) - b.sent k) = { PR with on := false } := by unfold prNext; rw [if_pos (.inr z2)]
              have N1 := HC.out.1.paOn x false
              rw [HOL.out, ← E, HST.out] at N1
              have HN : Bx _ := ⟨And.intro N1.1 (HC.out.2.trans N1.2)⟩
              rw [z2] at s4
              clear N1 HC E
              go_wp2_with fail
              go_roundg q'
              case rel => exact ⟨k + 1, by go_num, by omega, HN.out.1, HN.out.2⟩
              case measure => omega
            · have z2' : ¬ ((b.size k : Nat) : Int) = 0 := by omega
              have k1 : (((b.size k : Nat) : Int) == 0) = false := by simp; omega
              have k2 : decide (((b.size k : Nat) : Int) = 0) = false := by simp; omega
              have k3 : decide (b.size k = 0) = false := by simp; omega
              have hz : ¬ (b.size i = 0 ∨ b.size k = 0) := by omega
              cases hon : PR.on with
              | false =>
                rw [hon] at p0
                have E : prNext PR (b.size i) (b.size k) ((b.sent i : Int) - b.sent k) = ⟨true, (b.sent i : Int) - b.sent k, (b.sent i : Int) - b.sent k⟩ := by unfold prNext; rw [if_neg hz, hon, if_neg (by simp)]
                have N1 := HC.out.1.paOn x true
                have N2 := N1.1.paLeast x ((b.sent i : Int) - b.sent k)
                have N3 := N2.1.paMost x ((b.sent i : Int) - b.sent k)
                have HN : Bx (BoIs own (((w2.setCell ⟨g 7, x * 3, none⟩ (.bool true)).setCell ⟨g 7, x * 3 + 1, none⟩ (.int .i64 ((b.sent i : Int) - b.sent k))).setCell ⟨g 7, x * 3 + 2, none⟩ (.int .i64 ((b.sent i : Int) - b.sent k))) a hd c ax vF vH g (b.fairsTo i (k + 1)) ∧ Fr BTag own own w (((w2.setCell ⟨g 7, x * 3, none⟩ (.bool true)).setCell ⟨g 7, x * 3 + 1, none⟩ (.int .i64 ((b.sent i : Int) - b.sent k))).setCell ⟨g 7, x * 3 + 2, none⟩ (.int .i64 ((b.sent i : Int) - b.sent k)))) := ⟨N3.1.pairs_eq (by rw [← HST.out, E]; simp only [setAt_twice, setAt_same]), ((HC.out.2.trans N1.2).trans N2.2).trans N3.2⟩
                clear N1 N2 N3 HC E
                go_wp2_with fail
                go_quiet (fail)
                go_wp2_with fail
                go_roundg q'
                case rel => exact ⟨k + 1, by go_num, by omega, HN.out.1.below ((Below.refl _ _).drewN _), HN.out.2.trans (Fr.below ((Below.refl _ _).drewN _))⟩
                case measure => omega
              | true =>
                rw [hon] at p0
                obtain ⟨y1, y2, y3, y4⟩ := HPP hon
                have hle := HFF.out (by unfold prNext; rw [if_neg hz, if_pos hon])
                have E : prNext PR (b.size i) (b.size k) ((b.sent i : Int) - b.sent k) = ⟨true, if (b.sent i : Int) - b.sent k < PR.least then (b.sent i : Int) - b.sent k else PR.least, if PR.most < (b.sent i : Int) - b.sent k then (b.sent i : Int) - b.sent k else PR.most⟩ := by unfold prNext; rw [if_neg hz, if_pos hon]
                rw [E] at hle
                simp only at hle
                have hsame : PR = ⟨true, PR.least, PR.most⟩ := by rw [← hon]
                by_cases d1 : (b.sent i : Int) - b.sent k < PR.least
                · rw [if_pos d1] at hle E
                  have N1 := HC.out.1.paLeast x ((b.sent i : Int) - b.sent k)
                  by_cases d2 : PR.most < (b.sent i : Int) - b.sent k
                  · rw [if_pos d2] at hle E
                    have N2 := N1.1.paMost x ((b.sent i : Int) - b.sent k)
                    have HN : Bx (BoIs own ((w2.setCell ⟨g 7, x * 3 + 1, none⟩ (.int .i64 ((b.sent i : Int) - b.sent k))).setCell ⟨g 7, x * 3 + 2, none⟩ (.int .i64 ((b.sent i : Int) - b.sent k))) a hd c ax vF vH g (b.fairsTo i (k + 1)) ∧ Fr BTag own own w ((w2.setCell ⟨g 7, x * 3 + 1, none⟩ (.int .i64 ((b.sent i : Int) - b.sent k))).setCell ⟨g 7, x * 3 + 2, none⟩ (.int .i64 ((b.sent i : Int) - b.sent k)))) := ⟨N2.1.pairs_eq (by rw [← HST.out, E]; simp only [setAt_twice, setAt_same, HOL.out, hon]), (HC.out.2.trans N1.2).trans N2.2⟩
                    clear N1 N2 HC E hsame
                    go_wp2_with fail
                    go_quiet (fail)
                    go_wp2_with fail
                    go_roundg q'
                    case rel => exact ⟨k + 1, by go_num, by omega, HN.out.1.below ((Below.refl _ _).drewN _), HN.out.2.trans (Fr.below ((Below.refl _ _).drewN _))⟩
                    case measure => omega
                  · rw [if_neg d2] at hle E
                    have HN : Bx (BoIs own (w2.setCell ⟨g 7, x * 3 + 1, none⟩ (.int .i64 ((b.sent i : Int) - b.sent k))) a hd c ax vF vH g (b.fairsTo i (k + 1)) ∧ Fr BTag own own w (w2.setCell ⟨g 7, x * 3 + 1, none⟩ (.int .i64 ((b.sent i : Int) - b.sent k)))) := ⟨N1.1.pairs_eq (by rw [← HST.out, E]; simp only [HOL.out, hon]), HC.out.2.trans N1.2⟩
                    have d2' : ¬ ((b.sent i : Int) - b.sent k > PR.most) := d2
                    clear N1 HC E hsame
                    go_wp2_with fail
                    go_quiet (fail)
                    go_wp2_with fail
                    go_roundg q'
                    case rel => exact ⟨k + 1, by go_num, by omega, HN.out.1.below ((Below.refl _ _).drewN _), HN.out.2.trans (Fr.below ((Below.refl _ _).drewN _))⟩
                    case measure => omega
                · rw [if_neg d1] at hle E
                  by_cases d2 : PR.most < (b.sent i : Int) - b.sent k
                  · rw [if_pos d2] at hle E
                    have N2 := HC.out.1.paMost x ((b.sent i : Int) - b.sent k)
                    have HN : Bx (BoIs own (w2.setCell ⟨g 7, x * 3 + 2, none⟩ (.int .i64 ((b.sent i : Int) - b.sent k))) a hd c ax vF vH g (b.fairsTo i (k + 1)) ∧ Fr BTag own own w (w2.setCell ⟨g 7, x * 3 + 2, none⟩ (.int .i64 ((b.sent i : Int) - b.sent k)))) := ⟨N2.1.pairs_eq (by rw [← HST.out, E]; simp only [HOL.out, hon]), HC.out.2.trans N2.2⟩
                    clear N2 HC E hsame
                    go_wp2_with fail
                    go_quiet (fail)
                    go_wp2_with fail
                    go_roundg q'
                    case rel => exact ⟨k + 1, by go_num, by omega, HN.out.1.below ((Below.refl _ _).drewN _), HN.out.2.trans (Fr.below ((Below.refl _ _).drewN _))⟩
                    case measure => omega
                  · rw [if_neg d2] at hle E
                    have HN : Bx (BoIs own w2 a hd c ax vF vH g (b.fairsTo i (k + 1)) ∧ Fr BTag own own w w2) := ⟨HC.out.1.pairs_eq (by rw [← HST.out, E, ← hsame, setAt_self _ _ _ HOL.out.symm]), HC.out.2⟩
                    clear HC E hsame
                    go_wp2_with fail
                    go_quiet (fail)
                    go_wp2_with fail
                    go_roundg q'
                    case rel => exact ⟨k + 1, by go_num, by omega, HN.out.1.below ((Below.refl _ _).drewN _), HN.out.2.trans (Fr.below ((Below.refl _ _).drewN _))⟩
                    case measure => omega
        · have i2 : ¬ (k : Int) < i := by omega
          have hki : k = i := by omega
          have HB : Bx (BoIs own wr a hd c ax vF vH g (b.fairsTo (i + 1) 0) ∧ Fr BTag own own w wr) := ⟨by rw [← fairsTo_row, ← hki]; rw [← hki] at hb; exact hb, hf⟩
          clear hb hf hki
          go_wp2_with fail
          go_roundg r'
          case rel => exact ⟨i + 1, by go_num, by omega, HB.out.1, HB.out.2⟩
          case measure => omega
    · have i1 : ¬ (i : Int) < b.on.buckets := by omega
      have hin : i = b.on.buckets := by omega
      have HZ : Bx (BoIs own wr a hd c ax vF vH g b.fairs) := ⟨by rw [← fairsTo_all, ← hin]; exact HB.out.1⟩
      clear hin
      go_wp2_with fail
      go_ret
      exact ⟨rfl, ⟨_, _, _, HZ.out⟩, HB.out.2⟩

end Go.Proofs.Ytnkicbopebgppab
