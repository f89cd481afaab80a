/-
  The contract of the document's own packing: a sign, an exponent and a fraction with three bits more give the nearest float.
-/
import Derived.Test.YtmoaadaelhakjaaSumC
namespace Go.Proofs.Ytmoaadaelhakjaa
open Go.RowKit Num

theorem or_sign (S q : Nat) (hS : S = 0 ∨ S = 9223372036854775808) (hq : q < 9223372036854775808) : bits .or .u64 (S : Int) (q : Int) = ((S + q : Nat) : Int) := by
  rw [u64_or_nat S q (by omega) (by omega)]
  rcases hS with rfl | rfl
  · rw [Nat.zero_or, Nat.zero_add]
  · rw [nat_join 63 9223372036854775808 q (by decide) hq]

/-- Where the packing stands behind its loops: how it goes on, by cases. -/
theorem tail_cases (e m M : Nat) (h : Fin e m M) (he : e ≤ 2047) : ∃ q r, m / 8 = q ∧ m % 8 = r ∧ q < 9007199254740992 ∧ r < 8 ∧ (e = 1 ∨ 4503599627370496 ≤ q) ∧
    ((4 < r ∧ rnd M = min ((e - 1) * 4503599627370496 + (q + 1)) 9218868437227405312) ∨ (r = 4 ∧ q % 2 = 1 ∧ rnd M = min ((e - 1) * 4503599627370496 + (q + 1)) 9218868437227405312) ∨ (r = 4 ∧ q % 2 = 0 ∧ rnd M = min ((e - 1) * 4503599627370496 + q) 9218868437227405312) ∨ (r < 4 ∧ rnd M = min ((e - 1) * 4503599627370496 + q) 9218868437227405312)) := by
  obtain ⟨h1, h2, h3, h4⟩ := h
  refine ⟨m / 8, m % 8, rfl, rfl, by omega, by omega, by omega, ?_⟩
  have up := near_up m 2
  have dn := near_down m 2
  rw [show (2 : Nat) ^ 2 = 4 from rfl, show (2 : Nat) ^ (2 + 1) = 8 from rfl, show 2 + 1 = 3 from rfl] at up dn
  rcases (show 4 < m % 8 ∨ m % 8 = 4 ∨ m % 8 < 4 by omega) with h5 | h5 | h5
  · exact .inl ⟨h5, by rw [h4, up (.inl h5)]⟩
  · rcases (show m / 8 % 2 = 1 ∨ m / 8 % 2 = 0 by omega) with h6 | h6
    · exact .inr (.inl ⟨h5, h6, by rw [h4, up (.inr ⟨h5.symm, h6⟩)]⟩)
    · exact .inr (.inr (.inl ⟨h5, h6, by rw [h4, dn (.inr ⟨h5.symm, h6⟩)]⟩))
  · exact .inr (.inr (.inr ⟨h5, by rw [h4, dn (.inl h5)]⟩))

set_option maxHeartbeats 8000000 in
theorem pack_any (S e0 m0 M : Nat) (hS : S = 0 ∨ S = 9223372036854775808) (he0 : 1 ≤ e0 ∧ e0 ≤ 2046) (hm0 : m0 < 144115188075855872) (hrep : Exa e0 m0 M ∨ (Inx e0 m0 M ∧ 18014398509481984 ≤ m0)) (w : World) :
    Calls Try.prog 30 #[.int .u64 (S : Int), .int .i64 (e0 : Int), .int .u64 (m0 : Int)] w fun e w' => e = .returned (.int .u64 (S + rnd M : Nat)) ∧ w' = w := by
  obtain ⟨F, hF⟩ : ∃ F, S + rnd M = F := ⟨_, rfl⟩
  rw [hF]
  go_enter Try.func30, Try.ntmps30
  go_wp2
  go_loop [1, 2] (fun x y => ∃ e m : Nat, x = .int .i64 e ∧ y = .int .u64 m ∧ 1 ≤ e ∧ e ≤ 2047 ∧ m < 144115188075855872 ∧ (72057594037927936 ≤ m → e ≤ 2046) ∧ (Exa e m M ∨ (Inx e m M ∧ 18014398509481984 ≤ m))) (fun _ y => (intOf y).toNat)
  case atStart => exact ⟨e0, m0, rfl, rfl, he0.1, by omega, hm0, fun _ => he0.2, hrep⟩
  case round =>
    obtain ⟨e, m, rfl, rfl, he1, he2, hm, hem, hr⟩ := hrel
    clear hrep hm0 he0
    by_cases hbig : 72057594037927936 ≤ m
    · have hq : ((m : Int) / 72057594037927936 != 0) = true := by rw [bne_iff_ne]; omega
      have hb := st_bits m (by omega)
      have hst := st_eq m
      have hlt : st m < 72057594037927936 ∧ 36028797018963968 ≤ st m := by rw [hst]; split <;> omega
      have hem2 := hem hbig
      have hrs : Exa (e + 1) (st m) M ∨ (Inx (e + 1) (st m) M ∧ 18014398509481984 ≤ st m) := by
        rcases rep_st e m M (by rcases hr with h | h; exact .inl h; exact .inr h.1) with h | h
        · exact .inl h
        · exact .inr ⟨h, by omega⟩
      obtain ⟨m1, hm1⟩ : ∃ m1, st m = m1 := ⟨_, rfl⟩
      rw [hm1] at hb hlt hrs
      clear hst hr hem hm1 hF
      go_wp2
      go_round
      case rel => exact ⟨e + 1, m1, by go_num, rfl, by omega, by omega, by omega, fun h => by omega, hrs⟩
      case measure => simp [intOf]; omega
    · have hq : ((m : Int) / 72057594037927936 != 0) = false := by rw [bne_eq_false_iff_eq]; omega
      have hr2 : Exa e m M ∨ (Inx e m M ∧ 18014398509481984 ≤ m) ∨ Fin e m M := by
        rcases hr with h | h
        · exact .inl h
        · exact .inr (.inl h)
      have hm56 : m < 72057594037927936 := by omega
      clear hem hr hbig hm
      go_wp2
      go_loop [1, 2] (fun x y => ∃ e m : Nat, x = .int .i64 e ∧ y = .int .u64 m ∧ 1 ≤ e ∧ e ≤ 2047 ∧ m < 72057594037927936 ∧ (Exa e m M ∨ (Inx e m M ∧ 18014398509481984 ≤ m) ∨ Fin e m M)) (fun x _ => (intOf x).toNat)
      case atStart => exact ⟨e, m, rfl, rfl, he1, he2, hm56, hr2⟩
      case round =>
        clear hq hr2 hm56 he1 he2
        obtain ⟨e, m, rfl, rfl, he1, he2, hm, hr⟩ := hrel
        by_cases hgo : m < 36028797018963968 ∧ 1 < e
        · obtain ⟨g1, g2⟩ := hgo
          have hrs : Exa (e - 1) (m * 2) M ∨ (Inx (e - 1) (m * 2) M ∧ 18014398509481984 ≤ m * 2) ∨ Fin (e - 1) (m * 2) M := by
            rcases hr with h | h | h
            · exact .inl (exa_double e m M h g2)
            · exact .inr (.inr (inx_double e m M h.1 h.2 g1).2)
            · obtain ⟨_, _, h3, _⟩ := h
              omega
          have g3 : decide ((m : Int) < 36028797018963968) = true := decide_eq_true (by omega)
          have g4 : decide ((1 : Int) < (e : Int)) = true := decide_eq_true (by omega)
          clear hr hF
          go_wp2
          go_round
          case rel => exact ⟨e - 1, m * 2, by go_num, by go_num, by omega, by omega, by omega, hrs⟩
          case measure => simp [intOf]; omega
        · have hfin : Fin e m M := by
            by_cases g1 : m < 36028797018963968
            · have g2 : e = 1 := by omega
              subst g2
              rcases hr with h | h | h
              · exact exa_fin1 m M h g1
              · have := (inx_double 1 m M h.1 h.2 g1).1
                omega
              · exact h
            · rcases hr with h | h | h
              · exact exa_fin e m M h (by omega) hm
              · exact inx_fin e m M h.1 (by omega) hm
              · exact h
          have hgo2 : decide ((m : Int) < 36028797018963968) = false ∨ (decide ((m : Int) < 36028797018963968) = true ∧ decide ((1 : Int) < (e : Int)) = false) := by
            by_cases g1 : m < 36028797018963968
            · exact .inr ⟨decide_eq_true (by omega), decide_eq_false (by omega)⟩
            · exact .inl (decide_eq_false (by omega))
          obtain ⟨q, r, hq, hr8, hq1, hr1, hq2, hcase⟩ := tail_cases e m M hfin he2
          have d1 : (m : Int) / 8 = (q : Int) := by omega
          have d2 : bits .and .u64 (m : Int) 7 = (r : Int) := by
            have e2 := u64_and_nat m 7 (by omega) (by decide)
            rw [show ((7 : Nat) : Int) = 7 from rfl] at e2
            rw [e2, nat_mask3, hr8]
          have d3 : bits .and .u64 (q : Int) 1 = ((q % 2 : Nat) : Int) := by
            have e2 := u64_and_nat q 1 (by omega) (by decide)
            rw [show ((1 : Nat) : Int) = 1 from rfl] at e2
            rw [e2, nat_mask1]
          have os := or_sign S
          have oj := joinBits S
          clear hr hfin hgo hq hr8
          rcases hgo2 with hgo2 | hgo2 <;> rcases hcase with ⟨c1, c2⟩ | ⟨c1, c3, c2⟩ | ⟨c1, c3, c2⟩ | ⟨c1, c2⟩
          · rw [c2] at hF
            clear c2
            have t1 : decide ((4 : Int) < (r : Int)) = true := decide_eq_true (by omega)
            clear c1
            by_cases hc : q = 9007199254740991
            · subst hc
              have d1' : (m : Int) / 8 = 9007199254740991 := d1
              have d4 : bits .and .u64 9007199254740991 1 = 1 := by decide
              clear d1
              by_cases hv : 2047 ≤ e + 1
              · have v1 : decide ((2047 : Int) ≤ (e : Int) + 1) = true := decide_eq_true (by omega)
                have fk : bits .or .u64 (S : Int) 9218868437227405312 = (F : Int) := (os 9218868437227405312 hS (by decide)).trans (by omega)
                clear os oj hF
                go_wp2
                go_ret
                first | exact ⟨rfl, rfl⟩ | exact ⟨congrArg (fun x => Ending.returned (.int .u64 x)) fk, rfl⟩
              · have v1 : decide ((2047 : Int) ≤ (e : Int) + 1) = false := decide_eq_false (by omega)
                have fk := oj (e + 1) 4503599627370496 hS (by omega) (by decide)
                rw [Nat.mod_self, show S + (e + 1) * 4503599627370496 + 0 = F by omega, show (((e + 1) * 4503599627370496 : Nat) : Int) = ((e : Int) + 1) * 4503599627370496 by omega] at fk
                clear os oj hF
                go_wp2
                go_ret
                first | exact ⟨rfl, rfl⟩ | exact ⟨congrArg (fun x => Ending.returned (.int .u64 x)) fk, rfl⟩
            · have u1 : ((q : Int) + 1 == 9007199254740992) = false := by rw [beq_eq_false_iff_ne]; omega
              by_cases hs : q + 1 < 4503599627370496
              · have s1 : decide ((q : Int) + 1 < 4503599627370496) = true := decide_eq_true (by omega)
                have fk : bits .or .u64 (S : Int) ((q : Int) + 1) = (F : Int) := (os (q + 1) hS (by omega)).trans (by omega)
                clear os oj hF
                go_wp2
                go_ret
                first | exact ⟨rfl, rfl⟩ | exact ⟨congrArg (fun x => Ending.returned (.int .u64 x)) fk, rfl⟩
              · have s1 : decide ((q : Int) + 1 < 4503599627370496) = false := decide_eq_false (by omega)
                by_cases hv : 2047 ≤ e
                · have v1 : decide ((2047 : Int) ≤ (e : Int)) = true := decide_eq_true (by omega)
                  have fk : bits .or .u64 (S : Int) 9218868437227405312 = (F : Int) := (os 9218868437227405312 hS (by decide)).trans (by omega)
                  clear os oj hF
                  go_wp2
                  go_ret
                  first | exact ⟨rfl, rfl⟩ | exact ⟨congrArg (fun x => Ending.returned (.int .u64 x)) fk, rfl⟩
                · have v1 : decide ((2047 : Int) ≤ (e : Int)) = false := decide_eq_false (by omega)
                  have fk := oj e (q + 1) hS (by omega) (by omega)
                  have e5 : (q + 1) % 4503599627370496 = q + 1 - 4503599627370496 := by omega
                  rw [e5, show S + e * 4503599627370496 + (q + 1 - 4503599627370496) = F by omega, show ((e * 4503599627370496 : Nat) : Int) = (e : Int) * 4503599627370496 by omega, show ((q + 1 : Nat) : Int) = (q : Int) + 1 by omega] at fk
                  clear e5
                  clear os oj hF
                  go_wp2
                  go_ret
                  first | exact ⟨rfl, rfl⟩ | exact ⟨congrArg (fun x => Ending.returned (.int .u64 x)) fk, rfl⟩
          · rw [c2] at hF
            clear c2
            have t1 : decide ((4 : Int) < (r : Int)) = false := decide_eq_false (by omega)
            have t2 : ((r : Int) == 4) = true := by rw [beq_iff_eq]; omega
            rw [c3] at d3
            have d3' : bits .and .u64 (q : Int) 1 = 1 := d3
            clear d3 c3
            clear c1
            by_cases hc : q = 9007199254740991
            · subst hc
              have d1' : (m : Int) / 8 = 9007199254740991 := d1
              have d4 : bits .and .u64 9007199254740991 1 = 1 := by decide
              clear d1 d3'
              by_cases hv : 2047 ≤ e + 1
              · have v1 : decide ((2047 : Int) ≤ (e : Int) + 1) = true := decide_eq_true (by omega)
                have fk : bits .or .u64 (S : Int) 9218868437227405312 = (F : Int) := (os 9218868437227405312 hS (by decide)).trans (by omega)
                clear os oj hF
                go_wp2
                go_ret
                first | exact ⟨rfl, rfl⟩ | exact ⟨congrArg (fun x => Ending.returned (.int .u64 x)) fk, rfl⟩
              · have v1 : decide ((2047 : Int) ≤ (e : Int) + 1) = false := decide_eq_false (by omega)
                have fk := oj (e + 1) 4503599627370496 hS (by omega) (by decide)
                rw [Nat.mod_self, show S + (e + 1) * 4503599627370496 + 0 = F by omega, show (((e + 1) * 4503599627370496 : Nat) : Int) = ((e : Int) + 1) * 4503599627370496 by omega] at fk
                clear os oj hF
                go_wp2
                go_ret
                first | exact ⟨rfl, rfl⟩ | exact ⟨congrArg (fun x => Ending.returned (.int .u64 x)) fk, rfl⟩
            · have u1 : ((q : Int) + 1 == 9007199254740992) = false := by rw [beq_eq_false_iff_ne]; omega
              by_cases hs : q + 1 < 4503599627370496
              · have s1 : decide ((q : Int) + 1 < 4503599627370496) = true := decide_eq_true (by omega)
                have fk : bits .or .u64 (S : Int) ((q : Int) + 1) = (F : Int) := (os (q + 1) hS (by omega)).trans (by omega)
                clear os oj hF
                go_wp2
                go_ret
                first | exact ⟨rfl, rfl⟩ | exact ⟨congrArg (fun x => Ending.returned (.int .u64 x)) fk, rfl⟩
              · have s1 : decide ((q : Int) + 1 < 4503599627370496) = false := decide_eq_false (by omega)
                by_cases hv : 2047 ≤ e
                · have v1 : decide ((2047 : Int) ≤ (e : Int)) = true := decide_eq_true (by omega)
                  have fk : bits .or .u64 (S : Int) 9218868437227405312 = (F : Int) := (os 9218868437227405312 hS (by decide)).trans (by omega)
                  clear os oj hF
                  go_wp2
                  go_ret
                  first | exact ⟨rfl, rfl⟩ | exact ⟨congrArg (fun x => Ending.returned (.int .u64 x)) fk, rfl⟩
                · have v1 : decide ((2047 : Int) ≤ (e : Int)) = false := decide_eq_false (by omega)
                  have fk := oj e (q + 1) hS (by omega) (by omega)
                  have e5 : (q + 1) % 4503599627370496 = q + 1 - 4503599627370496 := by omega
                  rw [e5, show S + e * 4503599627370496 + (q + 1 - 4503599627370496) = F by omega, show ((e * 4503599627370496 : Nat) : Int) = (e : Int) * 4503599627370496 by omega, show ((q + 1 : Nat) : Int) = (q : Int) + 1 by omega] at fk
                  clear e5
                  clear os oj hF
                  go_wp2
                  go_ret
                  first | exact ⟨rfl, rfl⟩ | exact ⟨congrArg (fun x => Ending.returned (.int .u64 x)) fk, rfl⟩
          · rw [c2] at hF
            clear c2
            have t1 : decide ((4 : Int) < (r : Int)) = false := decide_eq_false (by omega)
            have t2 : ((r : Int) == 4) = true := by rw [beq_iff_eq]; omega
            rw [c3] at d3
            have d3' : bits .and .u64 (q : Int) 1 = 0 := d3
            clear d3 c3
            clear c1
            have u1 : ((q : Int) == 9007199254740992) = false := by rw [beq_eq_false_iff_ne]; omega
            by_cases hs : q < 4503599627370496
            · have s1 : decide ((q : Int) < 4503599627370496) = true := decide_eq_true (by omega)
              have fk : bits .or .u64 (S : Int) ((q : Int)) = (F : Int) := (os (q) hS (by omega)).trans (by omega)
              clear os oj hF
              go_wp2
              go_ret
              first | exact ⟨rfl, rfl⟩ | exact ⟨congrArg (fun x => Ending.returned (.int .u64 x)) fk, rfl⟩
            · have s1 : decide ((q : Int) < 4503599627370496) = false := decide_eq_false (by omega)
              by_cases hv : 2047 ≤ e
              · have v1 : decide ((2047 : Int) ≤ (e : Int)) = true := decide_eq_true (by omega)
                have fk : bits .or .u64 (S : Int) 9218868437227405312 = (F : Int) := (os 9218868437227405312 hS (by decide)).trans (by omega)
                clear os oj hF
                go_wp2
                go_ret
                first | exact ⟨rfl, rfl⟩ | exact ⟨congrArg (fun x => Ending.returned (.int .u64 x)) fk, rfl⟩
              · have v1 : decide ((2047 : Int) ≤ (e : Int)) = false := decide_eq_false (by omega)
                have fk := oj e (q) hS (by omega) (by omega)
                have e5 : (q) % 4503599627370496 = q - 4503599627370496 := by omega
                rw [e5, show S + e * 4503599627370496 + (q - 4503599627370496) = F by omega, show ((e * 4503599627370496 : Nat) : Int) = (e : Int) * 4503599627370496 by omega] at fk
                clear e5
                clear os oj hF
                go_wp2
                go_ret
                first | exact ⟨rfl, rfl⟩ | exact ⟨congrArg (fun x => Ending.returned (.int .u64 x)) fk, rfl⟩
          · rw [c2] at hF
            clear c2
            have t1 : decide ((4 : Int) < (r : Int)) = false := decide_eq_false (by omega)
            have t2 : ((r : Int) == 4) = false := by rw [beq_eq_false_iff_ne]; omega
            clear c1
            have u1 : ((q : Int) == 9007199254740992) = false := by rw [beq_eq_false_iff_ne]; omega
            by_cases hs : q < 4503599627370496
            · have s1 : decide ((q : Int) < 4503599627370496) = true := decide_eq_true (by omega)
              have fk : bits .or .u64 (S : Int) ((q : Int)) = (F : Int) := (os (q) hS (by omega)).trans (by omega)
              clear os oj hF
              go_wp2
              go_ret
              first | exact ⟨rfl, rfl⟩ | exact ⟨congrArg (fun x => Ending.returned (.int .u64 x)) fk, rfl⟩
            · have s1 : decide ((q : Int) < 4503599627370496) = false := decide_eq_false (by omega)
              by_cases hv : 2047 ≤ e
              · have v1 : decide ((2047 : Int) ≤ (e : Int)) = true := decide_eq_true (by omega)
                have fk : bits .or .u64 (S : Int) 9218868437227405312 = (F : Int) := (os 9218868437227405312 hS (by decide)).trans (by omega)
                clear os oj hF
                go_wp2
                go_ret
                first | exact ⟨rfl, rfl⟩ | exact ⟨congrArg (fun x => Ending.returned (.int .u64 x)) fk, rfl⟩
              · have v1 : decide ((2047 : Int) ≤ (e : Int)) = false := decide_eq_false (by omega)
                have fk := oj e (q) hS (by omega) (by omega)
                have e5 : (q) % 4503599627370496 = q - 4503599627370496 := by omega
                rw [e5, show S + e * 4503599627370496 + (q - 4503599627370496) = F by omega, show ((e * 4503599627370496 : Nat) : Int) = (e : Int) * 4503599627370496 by omega] at fk
                clear e5
                clear os oj hF
                go_wp2
                go_ret
                first | exact ⟨rfl, rfl⟩ | exact ⟨congrArg (fun x => Ending.returned (.int .u64 x)) fk, rfl⟩
          · rw [c2] at hF
            clear c2
            have t1 : decide ((4 : Int) < (r : Int)) = true := decide_eq_true (by omega)
            clear c1
            by_cases hc : q = 9007199254740991
            · subst hc
              have d1' : (m : Int) / 8 = 9007199254740991 := d1
              have d4 : bits .and .u64 9007199254740991 1 = 1 := by decide
              clear d1
              by_cases hv : 2047 ≤ e + 1
              · have v1 : decide ((2047 : Int) ≤ (e : Int) + 1) = true := decide_eq_true (by omega)
                have fk : bits .or .u64 (S : Int) 9218868437227405312 = (F : Int) := (os 9218868437227405312 hS (by decide)).trans (by omega)
                clear os oj hF
                go_wp2
                go_ret
                first | exact ⟨rfl, rfl⟩ | exact ⟨congrArg (fun x => Ending.returned (.int .u64 x)) fk, rfl⟩
              · have v1 : decide ((2047 : Int) ≤ (e : Int) + 1) = false := decide_eq_false (by omega)
                have fk := oj (e + 1) 4503599627370496 hS (by omega) (by decide)
                rw [Nat.mod_self, show S + (e + 1) * 4503599627370496 + 0 = F by omega, show (((e + 1) * 4503599627370496 : Nat) : Int) = ((e : Int) + 1) * 4503599627370496 by omega] at fk
                clear os oj hF
                go_wp2
                go_ret
                first | exact ⟨rfl, rfl⟩ | exact ⟨congrArg (fun x => Ending.returned (.int .u64 x)) fk, rfl⟩
            · have u1 : ((q : Int) + 1 == 9007199254740992) = false := by rw [beq_eq_false_iff_ne]; omega
              by_cases hs : q + 1 < 4503599627370496
              · have s1 : decide ((q : Int) + 1 < 4503599627370496) = true := decide_eq_true (by omega)
                have fk : bits .or .u64 (S : Int) ((q : Int) + 1) = (F : Int) := (os (q + 1) hS (by omega)).trans (by omega)
                clear os oj hF
                go_wp2
                go_ret
                first | exact ⟨rfl, rfl⟩ | exact ⟨congrArg (fun x => Ending.returned (.int .u64 x)) fk, rfl⟩
              · have s1 : decide ((q : Int) + 1 < 4503599627370496) = false := decide_eq_false (by omega)
                by_cases hv : 2047 ≤ e
                · have v1 : decide ((2047 : Int) ≤ (e : Int)) = true := decide_eq_true (by omega)
                  have fk : bits .or .u64 (S : Int) 9218868437227405312 = (F : Int) := (os 9218868437227405312 hS (by decide)).trans (by omega)
                  clear os oj hF
                  go_wp2
                  go_ret
                  first | exact ⟨rfl, rfl⟩ | exact ⟨congrArg (fun x => Ending.returned (.int .u64 x)) fk, rfl⟩
                · have v1 : decide ((2047 : Int) ≤ (e : Int)) = false := decide_eq_false (by omega)
                  have fk := oj e (q + 1) hS (by omega) (by omega)
                  have e5 : (q + 1) % 4503599627370496 = q + 1 - 4503599627370496 := by omega
                  rw [e5, show S + e * 4503599627370496 + (q + 1 - 4503599627370496) = F by omega, show ((e * 4503599627370496 : Nat) : Int) = (e : Int) * 4503599627370496 by omega, show ((q + 1 : Nat) : Int) = (q : Int) + 1 by omega] at fk
                  clear e5
                  clear os oj hF
                  go_wp2
                  go_ret
                  first | exact ⟨rfl, rfl⟩ | exact ⟨congrArg (fun x => Ending.returned (.int .u64 x)) fk, rfl⟩
          · rw [c2] at hF
            clear c2
            have t1 : decide ((4 : Int) < (r : Int)) = false := decide_eq_false (by omega)
            have t2 : ((r : Int) == 4) = true := by rw [beq_iff_eq]; omega
            rw [c3] at d3
            have d3' : bits .and .u64 (q : Int) 1 = 1 := d3
            clear d3 c3
            clear c1
            by_cases hc : q = 9007199254740991
            · subst hc
              have d1' : (m : Int) / 8 = 9007199254740991 := d1
              have d4 : bits .and .u64 9007199254740991 1 = 1 := by decide
              clear d1 d3'
              by_cases hv : 2047 ≤ e + 1
              · have v1 : decide ((2047 : Int) ≤ (e : Int) + 1) = true := decide_eq_true (by omega)
                have fk : bits .or .u64 (S : Int) 9218868437227405312 = (F : Int) := (os 9218868437227405312 hS (by decide)).trans (by omega)
                clear os oj hF
                go_wp2
                go_ret
                first | exact ⟨rfl, rfl⟩ | exact ⟨congrArg (fun x => Ending.returned (.int .u64 x)) fk, rfl⟩
              · have v1 : decide ((2047 : Int) ≤ (e : Int) + 1) = false := decide_eq_false (by omega)
                have fk := oj (e + 1) 4503599627370496 hS (by omega) (by decide)
                rw [Nat.mod_self, show S + (e + 1) * 4503599627370496 + 0 = F by omega, show (((e + 1) * 4503599627370496 : Nat) : Int) = ((e : Int) + 1) * 4503599627370496 by omega] at fk
                clear os oj hF
                go_wp2
                go_ret
                first | exact ⟨rfl, rfl⟩ | exact ⟨congrArg (fun x => Ending.returned (.int .u64 x)) fk, rfl⟩
            · have u1 : ((q : Int) + 1 == 9007199254740992) = false := by rw [beq_eq_false_iff_ne]; omega
              by_cases hs : q + 1 < 4503599627370496
              · have s1 : decide ((q : Int) + 1 < 4503599627370496) = true := decide_eq_true (by omega)
                have fk : bits .or .u64 (S : Int) ((q : Int) + 1) = (F : Int) := (os (q + 1) hS (by omega)).trans (by omega)
                clear os oj hF
                go_wp2
                go_ret
                first | exact ⟨rfl, rfl⟩ | exact ⟨congrArg (fun x => Ending.returned (.int .u64 x)) fk, rfl⟩
              · have s1 : decide ((q : Int) + 1 < 4503599627370496) = false := decide_eq_false (by omega)
                by_cases hv : 2047 ≤ e
                · have v1 : decide ((2047 : Int) ≤ (e : Int)) = true := decide_eq_true (by omega)
                  have fk : bits .or .u64 (S : Int) 9218868437227405312 = (F : Int) := (os 9218868437227405312 hS (by decide)).trans (by omega)
                  clear os oj hF
                  go_wp2
                  go_ret
                  first | exact ⟨rfl, rfl⟩ | exact ⟨congrArg (fun x => Ending.returned (.int .u64 x)) fk, rfl⟩
                · have v1 : decide ((2047 : Int) ≤ (e : Int)) = false := decide_eq_false (by omega)
                  have fk := oj e (q + 1) hS (by omega) (by omega)
                  have e5 : (q + 1) % 4503599627370496 = q + 1 - 4503599627370496 := by omega
                  rw [e5, show S + e * 4503599627370496 + (q + 1 - 4503599627370496) = F by omega, show ((e * 4503599627370496 : Nat) : Int) = (e : Int) * 4503599627370496 by omega, show ((q + 1 : Nat) : Int) = (q : Int) + 1 by omega] at fk
                  clear e5
                  clear os oj hF
                  go_wp2
                  go_ret
                  first | exact ⟨rfl, rfl⟩ | exact ⟨congrArg (fun x => Ending.returned (.int .u64 x)) fk, rfl⟩
          · rw [c2] at hF
            clear c2
            have t1 : decide ((4 : Int) < (r : Int)) = false := decide_eq_false (by omega)
            have t2 : ((r : Int) == 4) = true := by rw [beq_iff_eq]; omega
            rw [c3] at d3
            have d3' : bits .and .u64 (q : Int) 1 = 0 := d3
            clear d3 c3
            clear c1
            have u1 : ((q : Int) == 9007199254740992) = false := by rw [beq_eq_false_iff_ne]; omega
            by_cases hs : q < 4503599627370496
            · have s1 : decide ((q : Int) < 4503599627370496) = true := decide_eq_true (by omega)
              have fk : bits .or .u64 (S : Int) ((q : Int)) = (F : Int) := (os (q) hS (by omega)).trans (by omega)
              clear os oj hF
              go_wp2
              go_ret
              first | exact ⟨rfl, rfl⟩ | exact ⟨congrArg (fun x => Ending.returned (.int .u64 x)) fk, rfl⟩
            · have s1 : decide ((q : Int) < 4503599627370496) = false := decide_eq_false (by omega)
              by_cases hv : 2047 ≤ e
              · have v1 : decide ((2047 : Int) ≤ (e : Int)) = true := decide_eq_true (by omega)
                have fk : bits .or .u64 (S : Int) 9218868437227405312 = (F : Int) := (os 9218868437227405312 hS (by decide)).trans (by omega)
                clear os oj hF
                go_wp2
                go_ret
                first | exact ⟨rfl, rfl⟩ | exact ⟨congrArg (fun x => Ending.returned (.int .u64 x)) fk, rfl⟩
              · have v1 : decide ((2047 : Int) ≤ (e : Int)) = false := decide_eq_false (by omega)
                have fk := oj e (q) hS (by omega) (by omega)
                have e5 : (q) % 4503599627370496 = q - 4503599627370496 := by omega
                rw [e5, show S + e * 4503599627370496 + (q - 4503599627370496) = F by omega, show ((e * 4503599627370496 : Nat) : Int) = (e : Int) * 4503599627370496 by omega] at fk
                clear e5
                clear os oj hF
                go_wp2
                go_ret
                first | exact ⟨rfl, rfl⟩ | exact ⟨congrArg (fun x => Ending.returned (.int .u64 x)) fk, rfl⟩
          · rw [c2] at hF
            clear c2
            have t1 : decide ((4 : Int) < (r : Int)) = false := decide_eq_false (by omega)
            have t2 : ((r : Int) == 4) = false := by rw [beq_eq_false_iff_ne]; omega
            clear c1
            have u1 : ((q : Int) == 9007199254740992) = false := by rw [beq_eq_false_iff_ne]; omega
            by_cases hs : q < 4503599627370496
            · have s1 : decide ((q : Int) < 4503599627370496) = true := decide_eq_true (by omega)
              have fk : bits .or .u64 (S : Int) ((q : Int)) = (F : Int) := (os (q) hS (by omega)).trans (by omega)
              clear os oj hF
              go_wp2
              go_ret
              first | exact ⟨rfl, rfl⟩ | exact ⟨congrArg (fun x => Ending.returned (.int .u64 x)) fk, rfl⟩
            · have s1 : decide ((q : Int) < 4503599627370496) = false := decide_eq_false (by omega)
              by_cases hv : 2047 ≤ e
              · have v1 : decide ((2047 : Int) ≤ (e : Int)) = true := decide_eq_true (by omega)
                have fk : bits .or .u64 (S : Int) 9218868437227405312 = (F : Int) := (os 9218868437227405312 hS (by decide)).trans (by omega)
                clear os oj hF
                go_wp2
                go_ret
                first | exact ⟨rfl, rfl⟩ | exact ⟨congrArg (fun x => Ending.returned (.int .u64 x)) fk, rfl⟩
              · have v1 : decide ((2047 : Int) ≤ (e : Int)) = false := decide_eq_false (by omega)
                have fk := oj e (q) hS (by omega) (by omega)
                have e5 : (q) % 4503599627370496 = q - 4503599627370496 := by omega
                rw [e5, show S + e * 4503599627370496 + (q - 4503599627370496) = F by omega, show ((e * 4503599627370496 : Nat) : Int) = (e : Int) * 4503599627370496 by omega] at fk
                clear e5
                clear os oj hF
                go_wp2
                go_ret
                first | exact ⟨rfl, rfl⟩ | exact ⟨congrArg (fun x => Ending.returned (.int .u64 x)) fk, rfl⟩
end Go.Proofs.Ytmoaadaelhakjaa
