import Derived.Test.YtnkicbopebgppaaP10
/-! An event is booked: the walk, for another kind. -/
namespace Go.Proofs.Ytnkicbopebgppaa
open Go.RowKit Fl

set_option maxRecDepth 100000 in
set_option maxHeartbeats 12800000 in
theorem event_delayed (own : Nat → Nat) (a hd : Nat) (c : Cf) (ax : Nat) (p : Pt) (ge oe : Nat) (e : Ev) (b : Bo) (w : World) (h : BoAt own w a hd c ax b) (hp : PtAt own w 100 ax p) (he : EvAt w ge oe e) (hge : own ge = 50) (hlt : ge < w.heap.size) (hE : ∀ hd, EvOk hd p.now b e) (hB : EvB b e) (hk : e.kind = 4) :
    Calls Try.prog 39 #[.pointer (some ⟨a, 0, none⟩), .pointer (some ⟨ge, oe, none⟩)] w fun r w' => r = .returned (.tuple #[]) ∧ BoAt own w' a hd c ax (b.event e) ∧ Fr BTag own own w w' := by
  obtain ⟨vF, vH, g, h⟩ := h
  have P := hE 0
  obtain ⟨gf, of, cap, rfl⟩ := Sl.some h.f (Nat.lt_of_le_of_lt (Nat.zero_le _) P.id)
  have HR : Bx (EvR own w w a hd c ax gf of cap vH g ge oe e b) := ⟨⟨h, Fr.refl _ _ _, he, hge, hlt⟩⟩
  have HNW : Bx _ := ⟨pnow_any own 100 ax p.counts p w hp⟩
  have hcap : b.f.length ≤ cap := (Sl.at h.f).2.2.1
  have hid := P.id
  have hbu := P.bu
  have i1 : (e.id : Int) < b.f.length := by omega
  have i2 : ((b.when_ : Nat) : Int) ≤ e.time := by have := P.lo; omega
  have i3 : ((e.time : Nat) : Int) ≤ p.now := by have := P.hi; omega
  have i4 : ((e.b : Nat) : Int) < b.on.buckets := by omega
  have i5 : b.last e.b < (e.id : Int) := P.last
  have iF : (b.fr e.id).s.size ≤ 200 := P.small
  have iS : (b.fr e.id).s.size ≤ b.size e.b := P.fit
  have iA : (b.fr e.id).at_ ≤ e.time := P.since
  obtain ⟨B1, B2, B3, B4, B5, B6, B7, B8⟩ := hB
  have tgf := (Sl.at h.f).1
  have tga := h.row.tag
  have tg0 := h.la.tag; have tg1 := h.se.tag; have tg2 := h.tu.tag; have tg4 := h.si.tag; have tg5 := h.le.tag; have tg6 := h.ov.tag
  have n1 : ¬ gf = ge := fun x => by rw [x, hge] at tgf; omega
  have n2 : ¬ gf = a := fun x => by rw [x, tga] at tgf; omega
  have n3 : ¬ ge = gf := fun x => n1 x.symm
  have n4 : ¬ a = gf := fun x => n2 x.symm
  have N0 : Bx (¬ g 0 = ge ∧ ¬ g 0 = a ∧ ¬ g 1 = ge ∧ ¬ g 2 = ge ∧ ¬ g 4 = ge ∧ ¬ g 5 = ge ∧ ¬ g 6 = ge) := ⟨fun x => (by rw [x, hge] at tg0; omega), fun x => (by rw [x, tga] at tg0; omega), fun x => (by rw [x, hge] at tg1; omega), fun x => (by rw [x, hge] at tg2; omega), fun x => (by rw [x, hge] at tg4; omega), fun x => (by rw [x, hge] at tg5; omega), fun x => (by rw [x, hge] at tg6; omega)⟩
  have HE : Bx _ := ⟨hE⟩
  have HF0 : Bx ((b.fr e.id).gone = false) := ⟨P.gone⟩
  obtain ⟨F, HF⟩ : ∃ F, Bx (b.fr e.id = F) := ⟨_, ⟨rfl⟩⟩
  rw [HF.out] at iF iS iA HF0
  clear h hp he hE P tgf tga tg0 tg1 tg2 tg4 tg5 tg6
  have HK : Bx _ := ⟨hk⟩
  clear hk
  have c13 := (HR.out.cells hid hbu).c13
  go_enter Try.func39, Try.ntmps39
  go_wp2_with fail
  refine HNW.out.mono ?_
  rintro r w1 ⟨rfl, hb1⟩
  have HR1 : Bx (EvR own w w1 a hd c ax gf of cap vH g ge oe e b) := ⟨HR.out.step (HR.out.bo.below hb1) (Fr.below hb1)⟩
  clear HR c13 hb1 HNW
  go_wp2_with fail
  go_cut [6] from 18 to 74 (fun v6 wx => v6 = .bool true ∧ EvR own w wx a hd c ax gf of cap vH g ge oe e b)
  case first =>
    have C := HR1.out.cells hid hbu
    rw [HF.out] at C
    have e0 := C.e0
    have e2 := C.e2
    have e3 := C.e3
    have c14 := C.c14
    have c24 := C.c24
    have c28 := C.c28
    clear C
    go_quiet ((go_at_call 29; exact Calls.quiet_of_same (needs_yes a _)))
    all_goals go_wp2_with fail
    all_goals go_meet
    all_goals exact ⟨rfl, HR1.out.drewN _⟩
  case rest =>
    obtain ⟨rfl, R2⟩ := hcut
    have HR2 : Bx _ := ⟨R2⟩
    clear R2 HR1
    go_wp2_with fail
    go_cut [7] from 77 to 85 (fun v7 wx => v7 = .pointer (some ⟨gf, of + e.id * 6, none⟩) ∧ EvR own w wx a hd c ax gf of cap vH g ge oe e b)
    case first =>
      have C := HR2.out.cells hid hbu
      rw [HF.out] at C
      have e2 := C.e2
      have c24 := C.c24
      clear C
      go_quiet (fail)
      all_goals go_wp2_with fail
      all_goals go_meet
      all_goals exact ⟨rfl, HR2.out.drewN _⟩
    case rest =>
      obtain ⟨rfl, R3⟩ := hcut
      have HR3 : Bx _ := ⟨R3⟩
      clear R3 HR2
      go_wp2_with fail
      go_cut [6] from 86 to 109 (fun v6 wx => v6 = .bool true ∧ EvR own w wx a hd c ax gf of cap vH g ge oe e b)
      case first =>
        have C := HR3.out.cells hid hbu
        rw [HF.out] at C
        have f3 := C.f3
        have e2 := C.e2
        have e3 := C.e3
        have c29 := C.c29
        have la := C.la
        clear C
        rw [HF0.out] at f3
        go_quiet ((go_at_call 29; exact Calls.quiet_of_same (needs_yes a _)))
        all_goals go_wp2_with fail
        all_goals go_meet
        all_goals exact ⟨rfl, HR3.out.drewN _⟩
      case rest =>
        obtain ⟨rfl, R4⟩ := hcut
        have HR4 : Bx _ := ⟨R4⟩
        clear R4 HR3
        have C := HR4.out.cells hid hbu
        rw [HF.out] at C
        have e0 := C.e0
        have f3 := C.f3
        have zf := C.zf
        have c28 := C.c28
        have za := C.za
        clear C
        have R5 := (HR4.out.gone hid).own_ 28 (.int .i64 e.time) (b' := { b with f := b.f.set e.id { b.fr e.id with gone := true }, when_ := e.time }) (all37 rfl rfl rfl rfl rfl rfl rfl rfl rfl rfl rfl rfl rfl rfl rfl rfl rfl rfl rfl rfl rfl rfl rfl rfl rfl rfl rfl rfl rfl rfl rfl rfl rfl rfl rfl rfl rfl) rfl rfl rfl rfl rfl rfl rfl rfl rfl rfl rfl
        have HR5 : Bx _ := ⟨R5⟩
        clear R5 HR4
        go_wp2_with fail
        clear e0 f3 zf c28 za n1 n2 n3 n4
        generalize (wc.setCell ⟨gf, of + e.id * 6 + 3, none⟩ (.bool true)).setCell ⟨a, 28, none⟩ (.int .i64 e.time) = w5 at *
        obtain ⟨b5, Hb5⟩ : ∃ b5 : Bo, Bx (b5 = { b with f := b.f.set e.id { b.fr e.id with gone := true }, when_ := e.time }) := ⟨_, ⟨rfl⟩⟩
        rw [← Hb5.out] at HR5
        have hid5 : e.id < b5.f.length := by rw [Hb5.out]; show e.id < (b.f.set _ _).length; rw [List.length_set]; exact hid
        have hbu5 : e.b < b5.on.buckets := by rw [Hb5.out]; exact hbu
        have HF5 : Bx (b5.fr e.id = { F with gone := true }) := ⟨by rw [Hb5.out, ← HF.out]; exact frAt_set_same _ _ _ hid⟩
        have j4 : ((e.b : Nat) : Int) < b5.on.buckets := by omega
        obtain ⟨m0, m1, m2, m3, m4, m5, m6⟩ := N0.out
        go_cut [] from 122 to 134 (fun wx => EvR own w wx a hd c ax gf of cap vH g ge oe e { b5 with last := setAt b5.last e.b (e.id : Int) })
        case first =>
          have C := HR5.out.cells hid5 hbu5
          rw [HF5.out] at C
          have e2 := C.e2
          have e3 := C.e3
          have c29 := C.c29
          have la := C.la
          have z0 := C.z0
          clear C
          go_region
          all_goals go_wp2_with fail
          all_goals go_meet
          all_goals exact (HR5.out.laSet e.b (e.id : Int)).drew
        case rest =>
          obtain ⟨b6, Hb6⟩ : ∃ b6 : Bo, Bx (b6 = { b5 with last := setAt b5.last e.b (e.id : Int) }) := ⟨_, ⟨rfl⟩⟩
          rw [← Hb6.out] at hcut
          have HR6 : Bx _ := ⟨hcut⟩
          have hid6 : e.id < b6.f.length := by rw [Hb6.out]; exact hid5
          have hbu6 : e.b < b6.on.buckets := by rw [Hb6.out]; exact hbu5
          have HF6 : Bx (b6.fr e.id = { F with gone := true }) := ⟨by rw [Hb6.out]; exact HF5.out⟩
          have l4 : ((e.b : Nat) : Int) < b6.on.buckets := by omega
          have q6 : b6.size e.b = b.size e.b := by rw [Hb6.out, Hb5.out]
          have q7 : b6.left e.b = b.left e.b := by rw [Hb6.out, Hb5.out]
          clear hcut HR5 j4
          obtain ⟨S6, HS6⟩ : ∃ S6 : Nat, Bx (b6.size e.b = S6) := ⟨_, ⟨rfl⟩⟩
          obtain ⟨L6, HL6⟩ : ∃ L6 : Nat, Bx (b6.left e.b = L6) := ⟨_, ⟨rfl⟩⟩
          have q8 : S6 ≤ 1099511627776 := by rw [← HS6.out, q6]; exact B6
          have q9 : F.s.size ≤ S6 := by rw [← HS6.out, q6]; exact iS
          have q10 : L6 ≤ 1099511627776 := by rw [← HL6.out, q7]; exact B5
          clear q6 q7
          go_wp2_with fail
          go_cut [] from 135 to 159 (fun wx => EvR own w wx a hd c ax gf of cap vH g ge oe e { b6 with size := setAt b6.size e.b (S6 - F.s.size) })
          case first =>
            have C := HR6.out.cells hid6 hbu6
            rw [HF6.out] at C
            have e3 := C.e3
            have c33 := C.c33
            have si := C.si
            have f0 := C.f0
            have z4 := C.z4
            clear C
            rw [HS6.out] at si
            go_region
            all_goals go_wp2_with fail
            all_goals go_meet
            all_goals exact (HR6.out.siSet e.b (S6 - F.s.size)).drew.cast (by rw [show (((S6 - F.s.size : Nat)) : Int) = (S6 : Int) - F.s.size by omega]) rfl
          case rest =>
            obtain ⟨b7, Hb7⟩ : ∃ b7 : Bo, Bx (b7 = { b6 with size := setAt b6.size e.b (S6 - F.s.size) }) := ⟨_, ⟨rfl⟩⟩
            rw [← Hb7.out] at hcut
            have HR7 : Bx _ := ⟨hcut⟩
            have hid7 : e.id < b7.f.length := by rw [Hb7.out]; exact hid6
            have hbu7 : e.b < b7.on.buckets := by rw [Hb7.out]; exact hbu6
            have HF7 : Bx (b7.fr e.id = { F with gone := true }) := ⟨by rw [Hb7.out]; exact HF6.out⟩
            have l7 : ((e.b : Nat) : Int) < b7.on.buckets := by omega
            have q7 : b7.left e.b = L6 := by rw [Hb7.out]; exact HL6.out
            have HQ7 : Bx _ := ⟨q7⟩
            clear hcut HR6 l4 q7
            go_wp2_with fail
            go_cut [] from 160 to 184 (fun wx => EvR own w wx a hd c ax gf of cap vH g ge oe e { b7 with left := setAt b7.left e.b (L6 + F.s.size) })
            case first =>
              have C := HR7.out.cells hid7 hbu7
              rw [HF7.out] at C
              have e3 := C.e3
              have c34 := C.c34
              have le := C.le
              have f0 := C.f0
              have z5 := C.z5
              clear C
              rw [HQ7.out] at le
              go_region
              all_goals go_wp2_with fail
              all_goals go_meet
              all_goals exact (HR7.out.leSet e.b (L6 + F.s.size)).drew.cast (by rw [show (((L6 + F.s.size : Nat)) : Int) = (L6 : Int) + F.s.size by omega]) rfl
            case rest =>
              obtain ⟨b8, Hb8⟩ : ∃ b8 : Bo, Bx (b8 = { b7 with left := setAt b7.left e.b (L6 + F.s.size) }) := ⟨_, ⟨rfl⟩⟩
              rw [← Hb8.out] at hcut
              have HR8 : Bx _ := ⟨hcut⟩
              have hid8 : e.id < b8.f.length := by rw [Hb8.out]; exact hid7
              have hbu8 : e.b < b8.on.buckets := by rw [Hb8.out]; exact hbu7
              have HF8 : Bx (b8.fr e.id = { F with gone := true }) := ⟨by rw [Hb8.out]; exact HF7.out⟩
              have l8 : ((e.b : Nat) : Int) < b8.on.buckets := by omega
              have HG8 : Bx (b8 = b.goes e) := ⟨by
                rw [Hb8.out, Hb7.out, Hb6.out, Hb5.out, ← HL6.out, ← HS6.out, ← HF.out, Hb6.out, Hb5.out]; rfl⟩
              clear hcut HR7 l7 HQ7 Hb8 Hb7 Hb6 Hb5 HS6 HL6 q8 q9 q10 HF5 HF6 HF7 hid5 hid6 hid7 hbu5 hbu6 hbu7
              go_wp2_with fail
              go_cut [8] from 185 to 193 (fun v8 wx => v8 = .int .i64 ((e.time : Int) - F.at_) ∧ EvR own w wx a hd c ax gf of cap vH g ge oe e b8)
              case first =>
                have C := HR8.out.cells hid8 hbu8
                rw [HF8.out] at C
                have e0 := C.e0
                have f1 := C.f1
                clear C
                go_quiet (fail)
                all_goals go_wp2_with fail
                all_goals go_meet
                all_goals exact ⟨rfl, HR8.out.drewN _⟩
              case rest =>
                obtain ⟨rfl, R9⟩ := hcut
                have HR9 : Bx _ := ⟨R9⟩
                clear R9 HR8
                go_wp2_with fail
                go_cut [] from 194 to 211 (fun wx => EvR own w wx a hd c ax gf of cap vH g ge oe e b8)
                case first =>
                  have C := HR9.out.cells hid8 hbu8
                  rw [HF8.out] at C
                  have e0 := C.e0
                  have f5 := C.f5
                  clear C
                  have hs := (HE.out 64).soon rfl
                  rw [HF.out] at hs
                  by_cases hs1 : F.soon < 0
                  · go_quiet ((go_at_call 27; exact Calls.quiet_of_same (is_yes a _ _)))
                    go_wp2_with fail
                    go_meet
                    exact HR9.out.drewN _
                  · have hs2 : (e.time : Int) ≤ F.soon := hs.resolve_left hs1
                    go_quiet ((go_at_call 27; exact Calls.quiet_of_same (is_yes a _ _)))
                    go_wp2_with fail
                    go_meet
                    exact HR9.out.drewN _
                case rest =>
                  have HRa : Bx _ := ⟨hcut⟩
                  clear hcut HR9
                  have C := HRa.out.cells hid8 hbu8
                  rw [HF8.out] at C
                  have e1 := C.e1
                  have e4 := C.e4
                  have f0 := C.f0
                  clear C
                  rw [HK.out] at e1
                  have hon := (HE.out 1).once rfl (by have := HK.out; omega)
                  rw [HF.out] at hon
                  rw [hon] at e4
                  have HG9 : Bx (b8 = b.event e) := ⟨by rw [HG8.out]; unfold Bo.event; rw [if_neg (by have := HK.out; omega), if_neg (by have := HK.out; omega)]⟩
                  have hdl := (HE.out 8).delay4 rfl HK.out
                  rw [HF.out] at hdl
                  obtain ⟨d1, d2, d3⟩ := hdl
                  have qt : b8.on.target = b.on.target := by rw [HG8.out]; rfl
                  have qe : b8.on.ecn = b.on.ecn := by rw [HG8.out]; rfl
                  have d4 : ((b8.on.target : Nat) : Int) ≤ (e.time : Int) - F.at_ := by omega
                  have d5 : b8.on.target ≤ 1099511627776 := by omega
                  rw [← qe] at d3
                  clear qt d1
                  go_wp2_with fail
                  go_quiet ((go_at_call 27; exact Calls.quiet_of_same (is_yes a _ _)))
                  have HRb : Bx _ := ⟨HRa.out.drewN nq⟩
                  clear HRa e1 e4 f0
                  generalize wc.drewN nq = wb at *
                  have C := HRb.out.cells hid8 hbu8
                  rw [HF8.out] at C
                  have c19 := C.c19
                  have c22 := C.c22
                  have f2 := C.f2
                  have f4 := C.f4
                  clear C
                  have f2' : wb.cell? ⟨gf, of + e.id * 6 + 2, none⟩ = some (.bool F.able) := f2
                  have f4' : wb.cell? ⟨gf, of + e.id * 6 + 4, none⟩ = some (.int .i64 F.first) := f4
                  clear f2 f4
                  rw [HG9.out] at HRb
                  cases hec : b8.on.ecn with
                  | false =>
                    rw [hec] at c22
                    go_wp2_with fail
                    refine (is_yes a _ _).mono ?_
                    rintro r wz ⟨rfl, rfl⟩
                    go_wp2_with fail
                    go_end0
                    exact ⟨rfl, ⟨_, _, _, HRb.out.bo⟩, HRb.out.fr⟩
                  | true =>
                    have hab : F.able = false := by
                      cases hab : F.able with
                      | false => rfl
                      | true => exact absurd ⟨hec, hab⟩ d3
                    rw [hec] at c22
                    rw [hab] at f2'
                    go_wp2_with fail
                    refine (is_yes a _ _).mono ?_
                    rintro r wz ⟨rfl, rfl⟩
                    go_wp2_with fail
                    go_end0
                    exact ⟨rfl, ⟨_, _, _, HRb.out.bo⟩, HRb.out.fr⟩

end Go.Proofs.Ytnkicbopebgppaa
