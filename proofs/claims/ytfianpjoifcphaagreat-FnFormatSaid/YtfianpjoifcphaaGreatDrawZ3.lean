/-
  Drawn devices: l91Device.
-/
import Derived.Test.YtfianpjoifcphaaGreatG4
import Derived.Deep.RegionHeld3
namespace Go.Proofs.YtfianpjoifcphaaGreat
open Go.RowKit
set_option linter.unusedVariables false
set_option maxRecDepth 100000

/-- what is handed back -/
def DrawnZ (w0 : World) (R : Nat) (p : Int) (e : Ending) (w' : World) : Prop :=
  ∃ A n c qs p', e = .returned (.slice A n c) ∧ (∀ w2, w'.grownBy w2 (some R) → Zns w2 w2.heap.size A n qs) ∧ n ≤ 4 ∧ n ≤ c ∧ c ≤ maxLen ∧ (∀ q ∈ qs, q.words.length ≤ 70) ∧ p ≤ p' ∧ p' ≤ p + 2000 ∧ Rd w' R p' ∧ w0.grownBy w' (some R)

theorem DZ.keep {L : Nat} {w0 w w' : World} {R c : Nat} {p : Int} {A : Option Addr} {qs : List Zq} (h : DZ L w0 w R p A c qs) (hg : w.grownBy w' (some R)) : OwnZ w' w0.heap.size A 4 c qs :=
  h.own.kept hg (by
    intro q hq
    injection hq with hq
    subst hq
    exact ⟨fun e => by have := (h.own.block _ e).1; have := h.rlt; omega, fun k r hk e => by have := (h.own.wblock hk _ e).1; have := h.rlt; omega⟩)
theorem DZ.done' {w0 w : World} {R c : Nat} {p p0 : Int} {A : Option Addr} {qs : List Zq} (h : DZ 70 w0 w R p A c qs) (h0 : p0 ≤ p) (h1 : p ≤ p0 + 2000) : DrawnZ w0 R p0 (.returned (.slice A 4 c)) w :=
  ⟨_, _, _, _, p, rfl, fun w2 hg => (h.keep hg).zns, Nat.le_refl _, h.own.cap.1, h.own.cap.2, h.len, h0, h1, h.rd, h.grown⟩
theorem DZ.cut {w0 w : World} {R c j : Nat} {p p0 : Int} {A : Option Addr} {qs : List Zq} (h : DZ 70 w0 w R p A c qs) (hj : j ≤ 4) (h0 : p0 ≤ p) (h1 : p ≤ p0 + 2000) : DrawnZ w0 R p0 (.returned (.slice A j c)) w :=
  ⟨_, _, _, _, p, rfl, fun w2 hg => (h.keep hg).zns.firsts hj, hj, Nat.le_trans hj h.own.cap.1, h.own.cap.2, fun q hq => h.len q (List.mem_of_mem_take hq), h0, h1, h.rd, h.grown⟩

set_option maxHeartbeats 12800000 in
set_option maxRecDepth 100000 in
theorem device91_any (R : Nat) (p : Int) (w : World) (hr : Rd w R p) (hp : p < 10000) :
    Calls Tryz.prog 36 #[.pointer (some ⟨R, 0, none⟩)] w (DrawnZ w R p) := by
  have hRw := hr.lt
  have HNW := hide fun W => specNew W
  have HR0 := hide hr
  clear hr
  go_enter Tryz.func36, Tryz.ntmps36
  go_wp2_with fail
  refine (HNW.out _).mono ?_
  rintro e w1 ⟨A1, c1, qs1, rfl, ho1, hz1, hb1⟩
  have HD1 : Hid (DZ 64 w w1 R p A1 c1 qs1) := { rd := HR0.out.below hb1, rlt := hRw, own := ho1, len := new_len hz1, grown := grown_of_below hb1 _ }
  clear ho1 hz1 hb1
  go_wp2_with fail
  refine (pick_any R _ 5 _ HD1.out.rd (by omega) (by omega)).mono ?_
  rintro e w2 ⟨v2, rfl, hv20, hv21, hr2, hg2⟩
  have HD2 := hide (HD1.out.pick hr2 hg2)
  clear hr2 hg2
  go_wp2_with fail
  refine (pick_any R _ 10 _ HD2.out.rd (by omega) (by omega)).mono ?_
  rintro e w3 ⟨n, rfl, hn0, hn1, hr3, hg3⟩
  have HD3 := hide (HD2.out.pick hr3 hg3)
  clear hr3 hg3
  obtain ⟨N, rfl⟩ := Int.eq_ofNat_of_zero_le hn0
  go_upto_block 0 with fail
  go_cut [3] from 12 (fun d wx => ∃ (c : Nat) (Ao : Option Addr) (qs : List Zq) (p' : Int), d = .slice Ao 4 c ∧ p ≤ p' ∧ p' ≤ p + 1900 ∧ Hid (DZ 64 w wx R p' Ao c qs))
  case first =>
    go_wp2_with fail
    go_loopw [3, 4, 6] (fun d s i wr => ∃ (k c : Nat) (Ao : Option Addr) (qs : List Zq) (sq p' : Int), k ≤ N ∧ i = .int .i64 k ∧ d = .slice Ao 4 c ∧ s = .int .i64 sq ∧ 0 ≤ sq ∧ sq ≤ 10 + 10 * k ∧ p ≤ p' ∧ p' ≤ p + 2 + 150 * k ∧ Hid (DZ 64 w wr R p' Ao c qs)) (fun _ _ i _ => N - (intOf i).toNat)
    case atStart => exact ⟨0, _, _, _, 1 + v2, p + 1 + 1, Nat.zero_le _, rfl, rfl, rfl, by omega, by omega, by omega, by omega, HD3.out⟩
    case round =>
      clear HD1 HD2 HD3
      obtain ⟨k, c, Ao, qs, sq, p', hk, rfl, rfl, rfl, hq0, hq1, hp0, hp1, HD⟩ := hrel
      by_cases hlt : k < N
      · go_wp2_with fail
        refine (pick_any R _ 4 _ HD.out.rd (by omega) (by omega)).mono ?_
        rintro e w4 ⟨z, rfl, hz0, hz1, hr4, hg4⟩
        have HD4 := hide (HD.out.pick hr4 hg4)
        clear hr4 hg4 HD
        go_wp2_with fail
        refine (body91_any R _ _ HD4.out.rd (by omega)).mono ?_
        rintro e w5 ⟨kd, Ab, mb, cb, bs, p5, rfl, hob, hmb, hp50, hp51, hr5, hg5⟩
        have HD5 := hide (HD4.out.pick hr5 hg5)
        have HBI := hide hob.ints
        have hbl := hob.1
        clear hr5 hg5 hob HD4
        go_wp2_with fail
        refine (specPut kd sq Ab mb cb _ bs _ HBI.out (Nat.le_refl _) (by unfold maxLen; omega)).mono ?_
        rintro e w6 ⟨Aw, mw, cw, rfl, how, hbw⟩
        have HD6 := hide (HD5.out.below hbw)
        have hmw : mw ≤ 200 := by have h1 := how.1; have h2 := putF_len kd sq bs; omega
        have hR5 : R < w5.heap.size := HD5.out.rd.lt
        obtain ⟨ws, hws⟩ : ∃ ws, putF kd sq bs = ws := ⟨_, rfl⟩
        rw [hws] at how
        have HOW := hide how
        clear how hbw HD5 HBI hws hbl
        go_wp2_with fail
        refine (pick_any R _ 8 _ HD6.out.rd (by omega) (by omega)).mono ?_
        rintro e w7 ⟨v7, rfl, hv70, hv71, hr7, hg7⟩
        have HD7 := hide (HD6.out.pick hr7 hg7)
        have HWI7 := hide (HOW.out.kept hg7 (by intro g hg; injection hg with hg; subst hg; intro e; have := (HOW.out.block _ e).1; omega)).ints
        clear hr7 hg7 HD6 HOW hR5
        go_upto_if 37 with fail
        go_cut [10] from 38 to 71 (fun s wx => ∃ (Ax : Option Addr) (mx cx : Nat) (xs : List Int) (px : Int), s = .slice Ax mx cx ∧ mx ≤ 200 ∧ p ≤ px ∧ px ≤ p + 2 + 150 * k + 120 ∧ Hid (DZ 64 w wx R px Ao c qs) ∧ Hid (Ints wx wx.heap.size Ax mx xs))
        case first =>
          by_cases hv : v7 = 0
          · subst hv
            go_wp2_with fail
            refine (words91_any R _ 6 _ HD7.out.rd (by omega) (by omega) (by omega)).mono ?_
            rintro e w8 ⟨A8, k8, c8, xs8, p8, rfl, ho8, hk8, _, hp80, hp81, hr8, hg8⟩
            have HD8 := hide (HD7.out.pick hr8 hg8)
            have HI8 := hide ho8.ints
            clear hr8 hg8 ho8
            go_wp2
            go_meet
            exact ⟨_, _, _, _, p8, rfl, by omega, by omega, by omega, HD8.out, HI8.out⟩
          · have hv' : (v7 == 0) = false := by simpa using hv
            go_wp2
            go_meet
            exact ⟨_, _, _, _, _, rfl, by omega, by omega, by omega, HD7.out, HWI7.out⟩
        case rest =>
          clear HD7 HWI7
          obtain ⟨Ax, mx, cx, xs, px, rfl, hmx, hpx0, hpx1, HD8, HI8⟩ := hcut
          have HAP := hide (specAppend Ao Ax 4 c _ _ mx cx z qs xs _ HD8.out.own.zns (Nat.le_refl _) (by omega) HI8.out (Nat.le_refl _) (by omega))
          have HAL := hide (append_len (z := z) (ws := xs) (zns_len HD8.out.own) (len_zns' HD8.out.len))
          generalize appendD (zns qs) z xs = ds9 at HAP HAL
          generalize appendN (zns qs) z xs = n9 at HAP
          clear HI8
          go_wp2_with fail
          refine HAP.out.mono ?_
          rintro e w9 ⟨A9, m9, c9, qs9, rfl, ho9, hz9, hb9⟩
          have HO9 := hide ho9
          have HZ9 := hide hz9
          have HB9 := hide hb9
          clear ho9 hz9 hb9 HAP
          go_upto_if 49 with fail
          go_cut [3] from 50 to 71 (fun d wx => ∃ (cx : Nat) (Az : Option Addr) (qs : List Zq), d = .slice Az 4 cx ∧ Hid (DZ 64 w wx R px Az cx qs))
          case first =>
            rcases HAL.out with ⟨h4, hl⟩ | h0
            · have hm : m9 = 4 := by rw [← zns_len HO9.out, HZ9.out]; exact h4
              subst hm
              have HD9 := hide (HD8.out.swap HB9.out HO9.out (len_zns HZ9.out hl))
              clear h4 hl
              go_wp2
              go_meet
              exact ⟨_, _, _, rfl, HD9.out⟩
            · have hm : m9 = 0 := by rw [← zns_len HO9.out, HZ9.out, h0]; rfl
              subst hm
              have HD9 := hide (HD8.out.below HB9.out)
              clear h0
              go_wp2_with fail
              refine (HNW.out _).mono ?_
              rintro e w10 ⟨A10, c10, qs10, rfl, ho10, hz10, hb10⟩
              have HD10 := hide (HD9.out.swap hb10 ho10 (new_len hz10))
              clear ho10 hz10 hb10
              go_wp2
              go_meet
              exact ⟨_, _, _, rfl, HD10.out⟩
          case rest =>
            clear HD8 HO9 HZ9 HB9 HAL
            obtain ⟨cz, Az, qz, rfl, HD9⟩ := hcut
            go_upto_region 15 with fail
            go_cut [4] from 51 to 71 (fun s wx => ∃ (s2 : Int), s = .int .i64 s2 ∧ 0 ≤ s2 ∧ s2 ≤ sq + 3 ∧ Hid (DZ 64 w wx R (px + 1 + 1) Az cz qz))
            case first =>
              go_wp2_with fail
              refine (pick_any R _ 2 _ HD9.out.rd (by omega) (by omega)).mono ?_
              rintro e wa ⟨va, rfl, hva0, hva1, hra, hga⟩
              have HDa := hide (HD9.out.pick hra hga)
              clear hra hga
              go_wp2_with fail
              refine (pick_any R _ 3 _ HDa.out.rd (by omega) (by omega)).mono ?_
              rintro e wb ⟨vb, rfl, hvb0, hvb1, hrb, hgb⟩
              have HDb := hide (HDa.out.pick hrb hgb)
              clear hrb hgb HD9 HDa
              have hva : va = 0 ∨ va = 1 := by omega
              rcases hva with rfl | rfl
              all_goals
                go_wp2
                go_meet
                exact ⟨_, rfl, by omega, by omega, HDb.out⟩
            case rest =>
            clear HD9
            obtain ⟨s2, rfl, hs20, hs21, HDb⟩ := hcut
            go_wp2_with fail
            refine (pick_any R _ 8 _ HDb.out.rd (by omega) (by omega)).mono ?_
            rintro e wd ⟨vd, rfl, hvd0, hvd1, hrd, hgd⟩
            have HDd := hide (HDb.out.pick hrd hgd)
            clear hrd hgd HDb
            by_cases h0 : vd = 0
            · subst h0
              have HSY := hide (specSyncZ Az 4 cz _ qz _ HDd.out.own.zns (Nat.le_refl _) (by omega) (fun q hq => by have := HDd.out.len q hq; omega))
              go_wp2_with fail
              refine HSY.out.mono ?_
              rintro e we ⟨Ae, ce, qe, rfl, hoe, hze, hbe⟩
              have HDe := hide (HDd.out.swap hbe hoe (len_zns hze (fun z hz => by
                unfold syncD at hz
                obtain ⟨y, hy, rfl⟩ := List.mem_map.1 hz
                exact len_zns' HDd.out.len y hy)))
              clear hoe hze hbe HSY HDd
              go_wp2
              go_roundw
              case rel => exact ⟨k + 1, _, _, _, s2, px + 1 + 1 + 1, by omega, by go_num, rfl, rfl, by omega, by omega, by omega, by omega, HDe.out⟩
              case measure => simp [intOf]; omega
            · have h0' : (vd == 0) = false := by simpa using h0
              by_cases h1 : vd = 1
              · subst h1
                go_wp2_with fail
                refine (pick_any R _ 4 _ HDd.out.rd (by omega) (by omega)).mono ?_
                rintro e we ⟨ve, rfl, hve0, hve1, hre, hge⟩
                have HDe := hide (HDd.out.pick hre hge)
                obtain ⟨j, rfl⟩ := Int.eq_ofNat_of_zero_le hve0
                obtain ⟨g, rfl, hg0, hg1⟩ := HDe.out.own.shape (by omega)
                obtain ⟨q, hq⟩ : ∃ q, qz[j]? = some q := ⟨_, List.getElem?_eq_getElem (by rw [HDe.out.own.len]; omega)⟩
                obtain ⟨hc0, hc1, hc2⟩ := HDe.out.own.at_ hq
                have hf2 := HDe.out.own.free (j := j * 3 + 2)
                have HF := HDe.out.own.put_in hq ⟨q.words, q.synced, true, q.addr, q.cap⟩ 2 (.bool true) (by omega) rfl rfl rfl rfl
                have HDf := hide (HDe.out.stored HF.2 hg0 HF.1 (fun r hr => by
                  rcases List.mem_or_eq_of_mem_set hr with h | rfl
                  · exact HDe.out.len r h
                  · exact HDe.out.len q (List.mem_of_getElem? hq)))
                have j1 : (j : Int) < ((4 : Nat) : Int) := by omega
                clear hre hge HF hq hc0 hc1 HDd
                go_wp2
                go_roundw
                case rel => exact ⟨k + 1, _, _, _, s2, px + 1 + 1 + 1 + 1, by omega, by go_num, rfl, rfl, by omega, by omega, by omega, by omega, HDf.out⟩
                case measure => simp [intOf]; omega
              · have h1' : (vd == 1) = false := by simpa using h1
                go_wp2
                go_roundw
                case rel => exact ⟨k + 1, _, _, _, s2, px + 1 + 1 + 1, by omega, by go_num, rfl, rfl, by omega, by omega, by omega, by omega, HDd.out⟩
                case measure => simp [intOf]; omega
      · obtain rfl : k = N := by omega
        go_wp2
        go_meet
        exact ⟨_, _, _, _, rfl, by omega, by omega, HD.out⟩
  case rest =>
    clear HD1 HD2 HD3
    obtain ⟨c, Ao, qs, p', rfl, hp0, hp1, HD⟩ := hcut
    go_wp2_with fail
    refine (pick_any R _ 4 _ HD.out.rd (by omega) (by omega)).mono ?_
    rintro e w4 ⟨z, rfl, hz0, hz1, hr4, hg4⟩
    have HD4 := hide (HD.out.pick hr4 hg4)
    clear hr4 hg4 HD
    obtain ⟨j, rfl⟩ := Int.eq_ofNat_of_zero_le hz0
    go_wp2_with fail
    refine (pick_any R _ 24 _ HD4.out.rd (by omega) (by omega)).mono ?_
    rintro e w5 ⟨v, rfl, hv0, hv1, hr5, hg5⟩
    have HD5 := hide ((HD4.out.pick hr5 hg5).more (L' := 70) (by omega))
    have HL64 := hide HD4.out.len
    clear hr5 hg5 HD4
    have j1 : (j : Int) < ((4 : Nat) : Int) := by omega
    have hj4 : j < 4 := by omega
    by_cases h0 : v = 0
    · subst h0
      go_wp2_with fail
      refine (pick_any R _ 70 _ HD5.out.rd (by omega) (by omega)).mono ?_
      rintro e w6 ⟨y, rfl, hy0, hy1, hr6, hg6⟩
      have HD6 := hide (HD5.out.pick hr6 hg6)
      obtain ⟨g, rfl, hg0, hg1⟩ := HD6.out.own.shape (by omega)
      obtain ⟨q, hq⟩ : ∃ q, qs[j]? = some q := ⟨_, List.getElem?_eq_getElem (by rw [HD6.out.own.len]; exact hj4)⟩
      obtain ⟨hc0, hc1, hc2⟩ := HD6.out.own.at_ hq
      have hf1 := HD6.out.own.free (j := j * 3 + 1)
      have HF := HD6.out.own.put_in hq ⟨q.words, y - 1, q.full, q.addr, q.cap⟩ 1 (.int .i64 (y - 1)) (by omega) rfl rfl rfl rfl
      have HD7 := hide (HD6.out.stored HF.2 hg0 HF.1 (fun r hr => by
        rcases List.mem_or_eq_of_mem_set hr with h | rfl
        · exact HD6.out.len r h
        · exact HD6.out.len q (List.mem_of_getElem? hq)))
      clear hr6 hg6 HF hq hc0 hc2 HD5
      go_wp2
      go_ret
      exact HD7.out.done' (by omega) (by omega)
    · have h0' : (v == 0) = false := by simpa using h0
      by_cases h1 : v = 1
      · subst h1
        obtain ⟨g, rfl, hg0, hg1⟩ := HD5.out.own.shape (by omega)
        obtain ⟨q, hq⟩ : ∃ q, qs[j]? = some q := ⟨_, List.getElem?_eq_getElem (by rw [HD5.out.own.len]; exact hj4)⟩
        have HQ := hide hq
        obtain ⟨hc0, hc1, hc2⟩ := HD5.out.own.at_ hq
        have hl70 := HL64.out q (List.mem_of_getElem? hq)
        have HWS := hide fun (W : World) (p9 : Int) (h : DZ 70 w W R p9 (some ⟨g, 0, none⟩) c qs) => And.intro (h.own.at_ HQ.out).1 (h.own.own j q HQ.out)
        have HWD := hide fun (W : World) (p9 : Int) (h : DZ 70 w W R p9 (some ⟨g, 0, none⟩) c qs) (o : Obj) (w8 : World) (A8 : Option Addr) (c8 l8 : Nat) (ws8 : List Int) => h.word (w8 := w8) (o := o) (A8 := A8) (c8 := c8) (l := l8) (ws8 := ws8) HQ.out
        clear hq hc1 hc2
        obtain ⟨ws, sy, fu, qa, qc⟩ := q
        simp only [Zq.sl] at hc0 hl70 HWS HWD
        obtain ⟨l, hl⟩ : ∃ l, ws.length = l := ⟨_, rfl⟩
        rw [hl] at hc0 hl70 HWS HWD
        have hnm : l + 1 ≤ 17592186044416 := by omega
        clear hl
        go_upto_region 26 with fail
        go_region_law (first
          | (go_simp; go_at_call 95; refine (word_any R (p' + 1 + 1) _ ?_ (by omega)).mono ?_; exact HD5.out.rd; rintro e w7 ⟨x, p7, rfl, hx0, hx1, hp70, hp71, hr7, hg7⟩; have HD7 := hide ((HD5.out.drewN 1).pick hr7 hg7); have hk7 := (HWS.out _ _ HD7.out).1; have hk7a := (World.cell?_alloc_lt w7 (.cells #[.int .i64 x] 3) ⟨g, j * 3, none⟩ (HD7.out.own.block g rfl).2).trans hk7; have HOW7 := hide (HWS.out _ _ HD7.out).2; clear hr7 hg7)
          | (refine step_append_ints ?_ (.tmp 93) (.tmp 96) ?_ w.heap.size l qc (w7.heap.size + 1) 1 1 qa (some ⟨w7.heap.size, 0, none⟩) ws [x] ?_ ?_ ?_ ?_ ?_ ?_ ?_; rfl; rfl; rfl; exact HOW7.out.alloc _; rfl; exact Ints.one w7 x; exact hnm; (have := HD7.out.size; simp; omega); intro A8 c8 w8 ho8 hg8 hat8; have HW8 := hide (HWD.out w7 p7 HD7.out (.cells #[.int .i64 x] 3) w8 A8 c8 (l + 1) (ws ++ [x]) hg8 ho8 hat8 (by omega)); have hk8 := HW8.out.1; have hf8 := HW8.out.2.1; clear hg8 ho8 hat8))
        all_goals
          go_wp2
          go_ret
          exact HW8.out.2.2.done' (by omega) (by omega)
      · have h1' : (v == 1) = false := by simpa using h1
        by_cases h2 : v = 2
        · subst h2
          have hcc := HD5.out.own.cap
          have c1' : (j : Int) ≤ (c : Int) := by omega
          have cmx : c ≤ 9223372036854775807 := by have := hcc.2; unfold maxLen at this; omega
          go_wp2
          go_ret
          exact HD5.out.cut (by omega) (by omega) (by omega)
        · have h2' : (v == 2) = false := by simpa using h2
          by_cases h3 : v = 3
          · subst h3
            obtain ⟨g, rfl, hg0, hg1⟩ := HD5.out.own.shape (by omega)
            obtain ⟨q, hq⟩ : ∃ q, qs[j]? = some q := ⟨_, List.getElem?_eq_getElem (by rw [HD5.out.own.len]; exact hj4)⟩
            have hl64 := HL64.out q (List.mem_of_getElem? hq)
            have HQ := hide hq
            clear hq HL64
            go_wp2_with fail
            go_loopg [] (66 - q.words.length) (fun gk wr => ∃ (px : Int) (qx : List Zq) (qj : Zq), Hid (DZ 70 w wr R px (some ⟨g, 0, none⟩) c qx) ∧ Hid (qx[j]? = some qj) ∧ qj.words.length ≤ 65 ∧ qj.words.length + gk = 66 ∧ p ≤ px ∧ px + gk ≤ p + 1970)
            case atStart => exact ⟨_, _, _, HD5.out, HQ.out, by omega, by omega, by omega, by omega⟩
            case round =>
              clear HD5 HQ hl64
              obtain ⟨px, qx, qj, HD, HQ, hl65, hgk, hpx0, hpx1⟩ := hrel
              obtain ⟨hc0, _, _⟩ := HD.out.own.at_ HQ.out
              have HWS := hide fun (W : World) (p9 : Int) (h : DZ 70 w W R p9 (some ⟨g, 0, none⟩) c qx) => And.intro (h.own.at_ HQ.out).1 (h.own.own j qj HQ.out)
              have HWD := hide fun (W : World) (p9 : Int) (h : DZ 70 w W R p9 (some ⟨g, 0, none⟩) c qx) (o : Obj) (w8 : World) (A8 : Option Addr) (c8 l8 : Nat) (ws8 : List Int) => h.word (w8 := w8) (o := o) (A8 := A8) (c8 := c8) (l := l8) (ws8 := ws8) HQ.out
              have hjl : j < qx.length := (List.getElem?_eq_some_iff.1 HQ.out).1
              have HQS := hide fun (z : Zq) => (List.getElem?_set_self hjl : (qx.set j z)[j]? = some z)
              clear hjl HQ
              obtain ⟨ws, sy, fu, qa, qc⟩ := qj
              simp only [Zq.sl] at hc0 hl65 hgk HWS HWD
              obtain ⟨l, hl⟩ : ∃ l, ws.length = l := ⟨_, rfl⟩
              rw [hl] at hc0 hl65 hgk HWS HWD
              have HLW := hide hl
              have hnm : l + 1 ≤ 17592186044416 := by omega
              clear hl
              go_wp2_with fail
              go_region_held3 (fun w' => w'.cell? ⟨g, j * 3, none⟩ = some (.slice qa l qc))
                (first
                  | go_keep
                  | (exact hk7))
                ((first
                  | (go_at_call 90; refine (pick_any R px 3 _ ?_ (by omega) (by omega)).mono ?_; exact HD.out.rd; rintro e w7 ⟨x, rfl, hx0, hx1, hr7, hg7⟩; have e16 : IntKind.i64.wrap (63 + x) = 63 + x := IntWalk.i64_in _ (by omega); have HD7 := hide ((HD.out.drewN 1).pick hr7 hg7); have hk7 := (HWS.out _ _ HD7.out).1; have HOW7 := hide (HWS.out _ _ HD7.out).2; clear hr7 hg7)))
              by_cases hlt : (l : Int) < 63 + x
              · have hs7 : w.heap.size ≤ w7.heap.size + 1 := by have := HD7.out.size; omega
                clear HD
                go_wp2_with (at_builtin; refine wpList_append_ints rfl (.tmp 123) (.tmp 124) rfl w.heap.size l qc (w7.heap.size + 1) 1 1 qa (some ⟨w7.heap.size, 0, none⟩) ws [1] rfl (HOW7.out.alloc _) rfl (Ints.one w7 1) hnm (by simpa using hs7) ?_; intro A8 c8 w8 ho8 hg8 hat8; have HW8 := hide (HWD.out w7 (px + 1) HD7.out (.cells #[.int .i64 1] 3) w8 A8 c8 (l + 1) (ws ++ [1]) hg8 ho8 hat8 (by omega)); have hk8 := HW8.out.1; have hf8 := HW8.out.2.1; clear hg8 ho8 hat8)
                go_roundg (gk - 1)
                case measure => omega
                case rel =>
                  have hw8 : (ws ++ [1]).length = l + 1 := by rw [List.length_append, HLW.out]; rfl
                  exact ⟨px + 1, _, _, HW8.out.2.2, HQS.out _, by show (ws ++ [1]).length ≤ 65; omega, by show (ws ++ [1]).length + _ = 66; omega, by omega, by omega⟩
              · go_wp2
                go_ret
                exact HD7.out.done' (by omega) (by omega)
          · have h3' : (v == 3) = false := by simpa using h3
            go_wp2
            go_ret
            exact HD5.out.done' (by omega) (by omega)
end Go.Proofs.YtfianpjoifcphaaGreat
