import Derived.Test.YtnkicbopebgppabP10
/-! An event is booked: the walk, for another kind. -/
namespace Go.Proofs.Ytnkicbopebgppab
open Go.RowKit Fl

set_option maxRecDepth 100000 in
set_option maxHeartbeats 12800000 in
theorem event_marked (own : Nat → Nat) (a hd : Nat) (c : Cf) (ax : Nat) (p : Pt) (ge oe : Nat) (e : Ev) (b : Bo) (w : World) (h : BoAt own w a hd c ax b) (hp : PtAt own w 100 ax p) (he : EvAt w ge oe e) (hge : own ge = 50) (hlt : ge < w.heap.size) (hE : ∀ hd, EvOk hd p.now b e) (hB : EvB b e) (hk : e.kind = 2) (hH : HonestIs) :
    Calls Try.prog 38 #[.pointer (some ⟨a, 0, none⟩), .pointer (some ⟨ge, oe, none⟩)] w fun r w' => r = .returned (.tuple #[]) ∧ BoAt own w' a hd c ax (b.event e) ∧ Fr BTag own own w w' := by
  obtain ⟨vF, vH, g, h⟩ := h
  have P := hE 0
  obtain ⟨gf, of, cap, rfl⟩ := Sl.some h.f (Nat.lt_of_le_of_lt (Nat.zero_le _) P.id)
  have HR : Bx (EvR own w w a hd c ax gf of cap vH g ge oe e b) := ⟨⟨h, Fr.refl _ _ _, he, hge, hlt⟩⟩
  have HNW : Bx _ := ⟨pnow_any own 100 ax p.counts p w hp⟩
  have hcap : b.f.length ≤ cap := (Sl.at h.f).2.2.1
  have hid := P.id
  have hbu := P.bu
  have i1 : (e.id : Int) < b.f.length := by omega
  have i2 : ((b.when_ : Nat) : Int) ≤ e.time := by have := P.lo; omega
  have i3 : ((e.time : Nat) : Int) ≤ p.now := by have := P.hi; omega
  have i4 : ((e.b : Nat) : Int) < b.on.buckets := by omega
  have i5 : b.last e.b < (e.id : Int) := P.last
  have iF : (b.fr e.id).s.size ≤ 200 := P.small
  have iS : (b.fr e.id).s.size ≤ b.size e.b := P.fit
  have iA : (b.fr e.id).at_ ≤ e.time := P.since
  obtain ⟨B1, B2, B3, B4, B5, B6, B7, B8⟩ := hB
  have tgf := (Sl.at h.f).1
  have tga := h.row.tag
  have tg0 := h.la.tag; have tg1 := h.se.tag; have tg2 := h.tu.tag; have tg4 := h.si.tag; have tg5 := h.le.tag; have tg6 := h.ov.tag
  have n1 : ¬ gf = ge := fun x => by rw [x, hge] at tgf; omega
  have n2 : ¬ gf = a := fun x => by rw [x, tga] at tgf; omega
  have n3 : ¬ ge = gf := fun x => n1 x.symm
  have n4 : ¬ a = gf := fun x => n2 x.symm
  have N0 : Bx (¬ g 0 = ge ∧ ¬ g 0 = a ∧ ¬ g 1 = ge ∧ ¬ g 2 = ge ∧ ¬ g 4 = ge ∧ ¬ g 5 = ge ∧ ¬ g 6 = ge) := ⟨fun x => (by rw [x, hge] at tg0; omega), fun x => (by rw [x, tga] at tg0; omega), fun x => (by rw [x, hge] at tg1; omega), fun x => (by rw [x, hge] at tg2; omega), fun x => (by rw [x, hge] at tg4; omega), fun x => (by rw [x, hge] at tg5; omega), fun x => (by rw [x, hge] at tg6; omega)⟩
  have HE : Bx _ := ⟨hE⟩
  have HF0 : Bx ((b.fr e.id).gone = false) := ⟨P.gone⟩
  obtain ⟨F, HF⟩ : ∃ F, Bx (b.fr e.id = F) := ⟨_, ⟨rfl⟩⟩
  rw [HF.out] at iF iS iA HF0
  clear h hp he hE P tgf tga tg0 tg1 tg2 tg4 tg5 tg6
  have HK : Bx _ := ⟨hk⟩
  clear hk
  have c13 := (HR.out.cells hid hbu).c13
  go_enter Try.func38, Try.ntmps38
  go_wp2_with fail
  refine HNW.out.mono ?_
  rintro r w1 ⟨rfl, hb1⟩
  have HR1 : Bx (EvR own w w1 a hd c ax gf of cap vH g ge oe e b) := ⟨HR.out.step (HR.out.bo.below hb1) (Fr.below hb1)⟩
  clear HR c13 hb1 HNW
  go_wp2_with fail
  go_cut [6] from 18 to 74 (fun v6 wx => v6 = .bool true ∧ EvR own w wx a hd c ax gf of cap vH g ge oe e b)
  case first =>
    have C := HR1.out.cells hid hbu
    rw [HF.out] at C
    have e0 := C.e0
    have e2 := C.e2
    have e3 := C.e3
    have c14 := C.c14
    have c24 := C.c24
    have c28 := C.c28
    clear C
    go_quiet ((go_at_call 28; exact Calls.quiet_of_same (needs_yes a _)))
    all_goals go_wp2_with fail
    all_goals go_meet
    all_goals exact ⟨rfl, HR1.out.drewN _⟩
  case rest =>
    obtain ⟨rfl, R2⟩ := hcut
    have HR2 : Bx _ := ⟨R2⟩
    clear R2 HR1
    go_wp2_with fail
    go_cut [7] from 77 to 85 (fun v7 wx => v7 = .pointer (some ⟨gf, of + e.id * 6, none⟩) ∧ EvR own w wx a hd c ax gf of cap vH g ge oe e b)
    case first =>
      have C := HR2.out.cells hid hbu
      rw [HF.out] at C
      have e2 := C.e2
      have c24 := C.c24
      clear C
      go_quiet (fail)
      all_goals go_wp2_with fail
      all_goals go_meet
      all_goals exact ⟨rfl, HR2.out.drewN _⟩
    case rest =>
      obtain ⟨rfl, R3⟩ := hcut
      have HR3 : Bx _ := ⟨R3⟩
      clear R3 HR2
      go_wp2_with fail
      go_cut [6] from 86 to 109 (fun v6 wx => v6 = .bool true ∧ EvR own w wx a hd c ax gf of cap vH g ge oe e b)
      case first =>
        have C := HR3.out.cells hid hbu
        rw [HF.out] at C
        have f3 := C.f3
        have e2 := C.e2
        have e3 := C.e3
        have c29 := C.c29
        have la := C.la
        clear C
        rw [HF0.out] at f3
        go_quiet ((go_at_call 28; exact Calls.quiet_of_same (needs_yes a _)))
        all_goals go_wp2_with fail
        all_goals go_meet
        all_goals exact ⟨rfl, HR3.out.drewN _⟩
      case rest =>
        obtain ⟨rfl, R4⟩ := hcut
        have HR4 : Bx _ := ⟨R4⟩
        clear R4 HR3
        have C := HR4.out.cells hid hbu
        rw [HF.out] at C
        have e0 := C.e0
        have f3 := C.f3
        have zf := C.zf
        have c28 := C.c28
        have za := C.za
        clear C
        have R5 := (HR4.out.gone hid).own_ 28 (.int .i64 e.time) (b' := { b with f := b.f.set e.id { b.fr e.id with gone := true }, when_ := e.time }) (all37 rfl rfl rfl rfl rfl rfl rfl rfl rfl rfl rfl rfl rfl rfl rfl rfl rfl rfl rfl rfl rfl rfl rfl rfl rfl rfl rfl rfl rfl rfl rfl rfl rfl rfl rfl rfl rfl) rfl rfl rfl rfl rfl rfl rfl rfl rfl rfl rfl
        have HR5 : Bx _ := ⟨R5⟩
        clear R5 HR4
        go_wp2_with fail
        clear e0 f3 zf c28 za n1 n2 n3 n4
        generalize (wc.setCell ⟨gf, of + e.id * 6 + 3, none⟩ (.bool true)).setCell ⟨a, 28, none⟩ (.int .i64 e.time) = w5 at *
        obtain ⟨b5, Hb5⟩ : ∃ b5 : Bo, Bx (b5 = { b with f := b.f.set e.id { b.fr e.id with gone := true }, when_ := e.time }) := ⟨_, ⟨rfl⟩⟩
        rw [← Hb5.out] at HR5
        have hid5 : e.id < b5.f.length := by rw [Hb5.out]; show e.id < (b.f.set _ _).length; rw [List.length_set]; exact hid
        have hbu5 : e.b < b5.on.buckets := by rw [Hb5.out]; exact hbu
        have HF5 : Bx (b5.fr e.id = { F with gone := true }) := ⟨by rw [Hb5.out, ← HF.out]; exact frAt_set_same _ _ _ hid⟩
        have j4 : ((e.b : Nat) : Int) < b5.on.buckets := by omega
        obtain ⟨m0, m1, m2, m3, m4, m5, m6⟩ := N0.out
        go_cut [] from 122 to 134 (fun wx => EvR own w wx a hd c ax gf of cap vH g ge oe e { b5 with last := setAt b5.last e.b (e.id : Int) })
        case first =>
          have C := HR5.out.cells hid5 hbu5
          rw [HF5.out] at C
          have e2 := C.e2
          have e3 := C.e3
          have c29 := C.c29
          have la := C.la
          have z0 := C.z0
          clear C
          go_region
          all_goals go_wp2_with fail
          all_goals go_meet
          all_goals exact (HR5.out.laSet e.b (e.id : Int)).drew
        case rest =>
          obtain ⟨b6, Hb6⟩ : ∃ b6 : Bo, Bx (b6 = { b5 with last := setAt b5.last e.b (e.id : Int) }) := ⟨_, ⟨rfl⟩⟩
          rw [← Hb6.out] at hcut
          have HR6 : Bx _ := ⟨hcut⟩
          have hid6 : e.id < b6.f.length := by rw [Hb6.out]; exact hid5
          have hbu6 : e.b < b6.on.buckets := by rw [Hb6.out]; exact hbu5
          have HF6 : Bx (b6.fr e.id = { F with gone := true }) := ⟨by rw [Hb6.out]; exact HF5.out⟩
          have l4 : ((e.b : Nat) : Int) < b6.on.buckets := by omega
          have q6 : b6.size e.b = b.size e.b := by rw [Hb6.out, Hb5.out]
          have q7 : b6.left e.b = b.left e.b := by rw [Hb6.out, Hb5.out]
          clear hcut HR5 j4
          obtain ⟨S6, HS6⟩ : ∃ S6 : Nat, Bx (b6.size e.b = S6) := ⟨_, ⟨rfl⟩⟩
          obtain ⟨L6, HL6⟩ : ∃ L6 : Nat, Bx (b6.left e.b = L6) := ⟨_, ⟨rfl⟩⟩
          have q8 : S6 ≤ 1099511627776 := by rw [← HS6.out, q6]; exact B6
          have q9 : F.s.size ≤ S6 := by rw [← HS6.out, q6]; exact iS
          have q10 : L6 ≤ 1099511627776 := by rw [← HL6.out, q7]; exact B5
          clear q6 q7
          go_wp2_with fail
          go_cut [] from 135 to 159 (fun wx => EvR own w wx a hd c ax gf of cap vH g ge oe e { b6 with size := setAt b6.size e.b (S6 - F.s.size) })
          case first =>
            have C := HR6.out.cells hid6 hbu6
            rw [HF6.out] at C
            have e3 := C.e3
            have c33 := C.c33
            have si := C.si
            have f0 := C.f0
            have z4 := C.z4
            clear C
            rw [HS6.out] at si
            go_region
            all_goals go_wp2_with fail
            all_goals go_meet
            all_goals exact (HR6.out.siSet e.b (S6 - F.s.size)).drew.cast (by rw [show (((S6 - F.s.size : Nat)) : Int) = (S6 : Int) - F.s.size by omega]) rfl
          case rest =>
            obtain ⟨b7, Hb7⟩ : ∃ b7 : Bo, Bx (b7 = { b6 with size := setAt b6.size e.b (S6 - F.s.size) }) := ⟨_, ⟨rfl⟩⟩
            rw [← Hb7.out] at hcut
            have HR7 : Bx _ := ⟨hcut⟩
            have hid7 : e.id < b7.f.length := by rw [Hb7.out]; exact hid6
            have hbu7 : e.b < b7.on.buckets := by rw [Hb7.out]; exact hbu6
            have HF7 : Bx (b7.fr e.id = { F with gone := true }) := ⟨by rw [Hb7.out]; exact HF6.out⟩
            have l7 : ((e.b : Nat) : Int) < b7.on.buckets := by omega
            have q7 : b7.left e.b = L6 := by rw [Hb7.out]; exact HL6.out
            have HQ7 : Bx _ := ⟨q7⟩
            clear hcut HR6 l4 q7
            go_wp2_with fail
            go_cut [] from 160 to 184 (fun wx => EvR own w wx a hd c ax gf of cap vH g ge oe e { b7 with left := setAt b7.left e.b (L6 + F.s.size) })
            case first =>
              have C := HR7.out.cells hid7 hbu7
              rw [HF7.out] at C
              have e3 := C.e3
              have c34 := C.c34
              have le := C.le
              have f0 := C.f0
              have z5 := C.z5
              clear C
              rw [HQ7.out] at le
              go_region
              all_goals go_wp2_with fail
              all_goals go_meet
              all_goals exact (HR7.out.leSet e.b (L6 + F.s.size)).drew.cast (by rw [show (((L6 + F.s.size : Nat)) : Int) = (L6 : Int) + F.s.size by omega]) rfl
            case rest =>
              obtain ⟨b8, Hb8⟩ : ∃ b8 : Bo, Bx (b8 = { b7 with left := setAt b7.left e.b (L6 + F.s.size) }) := ⟨_, ⟨rfl⟩⟩
              rw [← Hb8.out] at hcut
              have HR8 : Bx _ := ⟨hcut⟩
              have hid8 : e.id < b8.f.length := by rw [Hb8.out]; exact hid7
              have hbu8 : e.b < b8.on.buckets := by rw [Hb8.out]; exact hbu7
              have HF8 : Bx (b8.fr e.id = { F with gone := true }) := ⟨by rw [Hb8.out]; exact HF7.out⟩
              have l8 : ((e.b : Nat) : Int) < b8.on.buckets := by omega
              have HG8 : Bx (b8 = b.goes e) := ⟨by
                rw [Hb8.out, Hb7.out, Hb6.out, Hb5.out, ← HL6.out, ← HS6.out, ← HF.out, Hb6.out, Hb5.out]; rfl⟩
              clear hcut HR7 l7 HQ7 Hb8 Hb7 Hb6 Hb5 HS6 HL6 q8 q9 q10 HF5 HF6 HF7 hid5 hid6 hid7 hbu5 hbu6 hbu7
              go_wp2_with fail
              go_cut [8] from 185 to 193 (fun v8 wx => v8 = .int .i64 ((e.time : Int) - F.at_) ∧ EvR own w wx a hd c ax gf of cap vH g ge oe e b8)
              case first =>
                have C := HR8.out.cells hid8 hbu8
                rw [HF8.out] at C
                have e0 := C.e0
                have f1 := C.f1
                clear C
                go_quiet (fail)
                all_goals go_wp2_with fail
                all_goals go_meet
                all_goals exact ⟨rfl, HR8.out.drewN _⟩
              case rest =>
                obtain ⟨rfl, R9⟩ := hcut
                have HR9 : Bx _ := ⟨R9⟩
                clear R9 HR8
                go_wp2_with fail
                go_cut [] from 194 to 211 (fun wx => EvR own w wx a hd c ax gf of cap vH g ge oe e b8)
                case first =>
                  have C := HR9.out.cells hid8 hbu8
                  rw [HF8.out] at C
                  have e0 := C.e0
                  have f5 := C.f5
                  clear C
                  have hs := (HE.out 64).soon rfl
                  rw [HF.out] at hs
                  by_cases hs1 : F.soon < 0
                  · go_quiet ((go_at_call 26; exact Calls.quiet_of_same (is_yes a _ _)))
                    go_wp2_with fail
                    go_meet
                    exact HR9.out.drewN _
                  · have hs2 : (e.time : Int) ≤ F.soon := hs.resolve_left hs1
                    go_quiet ((go_at_call 26; exact Calls.quiet_of_same (is_yes a _ _)))
                    go_wp2_with fail
                    go_meet
                    exact HR9.out.drewN _
                case rest =>
                  have HRa : Bx _ := ⟨hcut⟩
                  clear hcut HR9
                  have C := HRa.out.cells hid8 hbu8
                  rw [HF8.out] at C
                  have e1 := C.e1
                  have e0 := C.e0
                  have c26 := C.c26
                  clear C
                  rw [HK.out] at e1
                  have hli := (HE.out 4).link rfl (by have := HK.out; omega)
                  have qti : b8.till = b.till := by rw [HG8.out]; rfl
                  have q1 : ((b8.till : Nat) : Int) ≤ e.time := by omega
                  have HKQ : Bx _ := ⟨qti⟩
                  clear qti hli
                  go_wp2_with fail
                  go_quiet ((go_at_call 26; exact Calls.quiet_of_same (is_yes a _ _)))
                  have HRb : Bx _ := ⟨HRa.out.drewN nq⟩
                  clear HRa e1 e0 c26 q1
                  generalize wc.drewN nq = wb at *
                  go_wp2_with fail
                  go_cut [] from 248 to 265 (fun wx => EvR own w wx a hd c ax gf of cap vH g ge oe e b8)
                  case first =>
                    have C := HRb.out.cells hid8 hbu8
                    rw [HF8.out] at C
                    have e0 := C.e0
                    have f4 := C.f4
                    clear C
                    have hs := (HE.out 16).sparse rfl (by have := HK.out; omega)
                    rw [HF.out] at hs
                    by_cases hs1 : F.first < 0
                    · go_quiet ((go_at_call 26; exact Calls.quiet_of_same (is_yes a _ _)))
                      go_wp2_with fail
                      go_meet
                      exact HRb.out.drewN _
                    · have hs2 : (e.time : Int) ≤ F.first := hs.resolve_left hs1
                      go_quiet ((go_at_call 26; exact Calls.quiet_of_same (is_yes a _ _)))
                      go_wp2_with fail
                      go_meet
                      exact HRb.out.drewN _
                  case rest =>
                    have HRc : Bx _ := ⟨hcut⟩
                    have qtau : b8.on.tau = b.on.tau := by rw [HG8.out]; rfl
                    have u1 : F.s.size * b8.on.tau ≤ 200 * 1048576 := Nat.mul_le_mul iF (by omega)
                    obtain ⟨X, HX, u2, u3⟩ : ∃ X : Nat, Bx (F.s.size * b8.on.tau = X) ∧ X ≤ 209715200 ∧ ((F.s.size : Nat) : Int) * ((b8.on.tau : Nat) : Int) = (X : Nat) := ⟨_, ⟨rfl⟩, u1, by simp⟩
                    clear hcut HRb qtau u1
                    go_wp2_with fail
                    go_cut [] from 266 to 284 (fun wx => EvR own w wx a hd c ax gf of cap vH g ge oe e { b8 with till := e.time + X })
                    case first =>
                      have C := HRc.out.cells hid8 hbu8
                      rw [HF8.out] at C
                      have e0 := C.e0
                      have f0 := C.f0
                      have c21 := C.c21
                      have c26 := C.c26
                      have za := C.za
                      clear C
                      have f0' : wc.cell? ⟨gf, of + e.id * 6, none⟩ = some (.string F.s) := f0
                      clear f0
                      have tga := HRc.out.bo.row.tag
                      have n1 : ¬ a = ge := fun x => by rw [x, hge] at tga; omega
                      clear tga
                      go_region
                      all_goals go_wp2_with fail
                      all_goals go_meet
                      all_goals exact (HRc.out.own_ 26 (.int .i64 ((e.time : Int) + X)) (b' := { b8 with till := e.time + X }) (all37 rfl rfl rfl rfl rfl rfl rfl rfl rfl rfl rfl rfl rfl rfl rfl rfl rfl rfl rfl rfl rfl rfl rfl rfl rfl rfl rfl rfl rfl rfl rfl rfl rfl rfl rfl rfl rfl) rfl rfl rfl rfl rfl rfl rfl rfl rfl rfl rfl).drew
                    case rest =>
                      obtain ⟨b9, Hb9⟩ : ∃ b9 : Bo, Bx (b9 = { b8 with till := e.time + X }) := ⟨_, ⟨rfl⟩⟩
                      rw [← Hb9.out] at hcut
                      have HRd : Bx _ := ⟨hcut⟩
                      have hid9 : e.id < b9.f.length := by rw [Hb9.out]; exact hid8
                      have hbu9 : e.b < b9.on.buckets := by rw [Hb9.out]; exact hbu8
                      have HF9 : Bx (b9.fr e.id = { F with gone := true }) := ⟨by rw [Hb9.out]; exact HF8.out⟩
                      have l9 : ((e.b : Nat) : Int) < b9.on.buckets := by omega
                      clear hcut HRc l8 u2 u3
                      have C := HRd.out.cells hid9 hbu9
                      rw [HF9.out] at C
                      have c27 := C.c27
                      have za := C.za
                      clear C
                      have HRe : Bx _ := ⟨HRd.out.own_ 27 (.bool false) (b' := { b9 with old := false }) (all37 rfl rfl rfl rfl rfl rfl rfl rfl rfl rfl rfl rfl rfl rfl rfl rfl rfl rfl rfl rfl rfl rfl rfl rfl rfl rfl rfl rfl rfl rfl rfl rfl rfl rfl rfl rfl rfl) rfl rfl rfl rfl rfl rfl rfl rfl rfl rfl rfl⟩
                      clear HRd
                      go_wp2_with fail
                      clear c27 za
                      generalize wc.setCell ⟨a, 27, none⟩ (.bool false) = we at *
                      obtain ⟨bA, HbA⟩ : ∃ bA : Bo, Bx (bA = { b9 with old := false }) := ⟨_, ⟨rfl⟩⟩
                      rw [← HbA.out] at HRe
                      have hidA : e.id < bA.f.length := by rw [HbA.out]; exact hid9
                      have hbuA : e.b < bA.on.buckets := by rw [HbA.out]; exact hbu9
                      have HFA : Bx (bA.fr e.id = { F with gone := true }) := ⟨by rw [HbA.out]; exact HF9.out⟩
                      have lA : ((e.b : Nat) : Int) < bA.on.buckets := by omega
                      obtain ⟨S6, HS6⟩ : ∃ S6 : Nat, Bx (bA.sent e.b = S6) := ⟨_, ⟨rfl⟩⟩
                      obtain ⟨L6, HL6⟩ : ∃ L6 : Nat, Bx (bA.turn e.b = L6) := ⟨_, ⟨rfl⟩⟩
                      have q8 : S6 ≤ 1099511627776 := by rw [← HS6.out, HbA.out, Hb9.out, HG8.out]; exact B3
                      have q9 : L6 ≤ 1099511627776 := by rw [← HL6.out, HbA.out, Hb9.out, HG8.out]; exact B4
                      clear l9
                      go_cut [] from 288 to 312 (fun wx => EvR own w wx a hd c ax gf of cap vH g ge oe e { bA with sent := setAt bA.sent e.b (S6 + F.s.size) })
                      case first =>
                        have C := HRe.out.cells hidA hbuA
                        rw [HFA.out] at C
                        have e3 := C.e3
                        have c30 := C.c30
                        have se := C.se
                        have f0 := C.f0
                        have z1 := C.z1
                        clear C
                        have f0' : we.cell? ⟨gf, of + e.id * 6, none⟩ = some (.string F.s) := f0
                        clear f0
                        rw [HS6.out] at se
                        go_region
                        all_goals go_wp2_with fail
                        all_goals go_meet
                        all_goals exact (HRe.out.seSet e.b (S6 + F.s.size)).drew.cast (by rw [show (((S6 + F.s.size : Nat)) : Int) = (S6 : Int) + F.s.size by omega]) rfl
                      case rest =>
                        obtain ⟨bC, HbC⟩ : ∃ bC : Bo, Bx (bC = { bA with sent := setAt bA.sent e.b (S6 + F.s.size) }) := ⟨_, ⟨rfl⟩⟩
                        rw [← HbC.out] at hcut
                        have HRf : Bx _ := ⟨hcut⟩
                        have hidC : e.id < bC.f.length := by rw [HbC.out]; exact hidA
                        have hbuC : e.b < bC.on.buckets := by rw [HbC.out]; exact hbuA
                        have HFC : Bx (bC.fr e.id = { F with gone := true }) := ⟨by rw [HbC.out]; exact HFA.out⟩
                        have lC : ((e.b : Nat) : Int) < bC.on.buckets := by omega
                        have HLC : Bx (bC.turn e.b = L6) := ⟨by rw [HbC.out]; exact HL6.out⟩
                        clear hcut HRe lA
                        go_wp2_with fail
                        go_cut [] from 313 to 337 (fun wx => EvR own w wx a hd c ax gf of cap vH g ge oe e { bC with turn := setAt bC.turn e.b (L6 + F.s.size) })
                        case first =>
                          have C := HRf.out.cells hidC hbuC
                          rw [HFC.out] at C
                          have e3 := C.e3
                          have c31 := C.c31
                          have tu := C.tu
                          have f0 := C.f0
                          have z2 := C.z2
                          clear C
                          have f0' : wc.cell? ⟨gf, of + e.id * 6, none⟩ = some (.string F.s) := f0
                          clear f0
                          rw [HLC.out] at tu
                          go_region
                          all_goals go_wp2_with fail
                          all_goals go_meet
                          all_goals exact (HRf.out.tuSet e.b (L6 + F.s.size)).drew.cast (by rw [show (((L6 + F.s.size : Nat)) : Int) = (L6 : Int) + F.s.size by omega]) rfl
                        case rest =>
                          obtain ⟨bD, HbD⟩ : ∃ bD : Bo, Bx (bD = { bC with turn := setAt bC.turn e.b (L6 + F.s.size) }) := ⟨_, ⟨rfl⟩⟩
                          rw [← HbD.out] at hcut
                          have HRg : Bx _ := ⟨hcut⟩
                          have hidD : e.id < bD.f.length := by rw [HbD.out]; exact hidC
                          have hbuD : e.b < bD.on.buckets := by rw [HbD.out]; exact hbuC
                          have HFD : Bx (bD.fr e.id = { F with gone := true }) := ⟨by rw [HbD.out]; exact HFC.out⟩
                          have HGD : Bx (bD = b.event e) := ⟨by
                            have h1 : b.event e = (b.goes e).sends e (b.fr e.id).s.size := by unfold Bo.event; rw [if_pos (by have := HK.out; omega)]
                            rw [h1, HbD.out, HbC.out, ← HL6.out, ← HS6.out, HbA.out, Hb9.out, ← HX.out, HG8.out, HF.out]; rfl⟩
                          have qec : bD.on = b.on := by rw [HGD.out]; exact (b.event_keeps e).on
                          have HQE : Bx _ := ⟨qec⟩
                          clear hcut HRf lC q8 q9 HS6 HL6 HLC HX Hb9 HbA HbC HbD HF9 HFA HFC HF8 qec hid9 hidA hidC hbu9 hbuA hbuC
                          have C := HRg.out.cells hidD hbuD
                          rw [HFD.out] at C
                          have e1 := C.e1
                          have e4 := C.e4
                          have f0 := C.f0
                          clear C
                          have f0' : wc.cell? ⟨gf, of + e.id * 6, none⟩ = some (.string F.s) := f0
                          clear f0
                          rw [HK.out] at e1
                          have hmk := (HE.out 1).marked rfl HK.out
                          rw [HF.out] at hmk
                          have HHO : Bx _ := ⟨fun wx => hH F.s e.s wx iF hmk.1 hmk.2⟩
                          clear hmk
                          go_wp2_with fail
                          go_cut [9] from 354 to 362 (fun v9 wx => v9 = .bool true ∧ EvR own w wx a hd c ax gf of cap vH g ge oe e bD)
                          case first =>
                            go_quiet ((go_at_call 55; exact Calls.quiet_of (HHO.out _)))
                            go_wp2_with fail
                            go_meet
                            exact ⟨rfl, HRg.out.drewN _⟩
                          case rest =>
                            obtain ⟨rfl, Rh⟩ := hcut
                            have HRh : Bx _ := ⟨Rh⟩
                            clear Rh HRg e1 e4 f0'
                            go_wp2_with fail
                            refine (is_yes a _ _).mono ?_
                            rintro r wz ⟨rfl, rfl⟩
                            have hdl := (HE.out 8).delay2 rfl HK.out
                            rw [HF.out] at hdl
                            obtain ⟨d1, d2, d3⟩ := hdl
                            rw [← HQE.out] at d1 d2
                            have d4 : ((bD.on.target : Nat) : Int) ≤ (e.time : Int) - F.at_ := by omega
                            clear d2
                            have C := HRh.out.cells hidD hbuD
                            rw [HFD.out] at C
                            have c19 := C.c19
                            have c22 := C.c22
                            have f4 := C.f4
                            clear C
                            have f4' : wz.cell? ⟨gf, of + e.id * 6 + 4, none⟩ = some (.int .i64 F.first) := f4
                            clear f4
                            rw [d1] at c22
                            rw [HGD.out] at HRh
                            go_wp2_with fail
                            refine (is_yes a _ _).mono ?_
                            rintro r wz ⟨rfl, rfl⟩
                            go_wp2_with fail
                            go_end0
                            exact ⟨rfl, ⟨_, _, _, HRh.out.bo⟩, HRh.out.fr⟩

end Go.Proofs.Ytnkicbopebgppab
