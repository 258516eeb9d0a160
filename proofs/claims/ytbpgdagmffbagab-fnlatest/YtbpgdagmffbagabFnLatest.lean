/- For every input the law 'FnLatest' returns true and leaves its arguments as they were: proved without a condition, over the turned code of the commit beside it. -/
import Derived.Test.YtbpgdagmffbagabRows
import Derived.WalkKit
import Derived.Test.YtbpgdagmffbagabBytes
import Derived.Test.YtbpgdagmffbagabLatD
import Derived.Test.YtbpgdagmffbagabRowSl
import Derived.ProofKit
import Derived.OpenShut
import Derived.ShutString
import Derived.ChangeOld
import Derived.Below
import Derived.SliceStrings
namespace Go.Proofs.Ytbpgdagmffbagab.fnLatest
open Go.ChangeShapes Go.WideShapes Go.ChangeAt Go.RowKit
open Go.ChangeMaps (open_string shut_string)
set_option linter.unusedVariables false
set_option linter.unusedSimpArgs false

theorem own : ownKnob Try.prog.godebug = none := by kernel_rfl
theorem laidOut : laidOutB Try.prog = true := by kernel_rfl

set_option maxRecDepth 1000000 in
set_option maxHeartbeats 4000000 in
theorem walk (w : World) (v0 : Value) (xs0 : List Int) (h0 : Mem.Sl w v0 (Mem.bs xs0)) (y0 : Mem.Byt xs0) (m0 : xs0.length ≤ maxLen) :
    Calls Try.prog 4 #[v0] w fun e w' => e = .returned (.bool true) ∧ Below w.heap.size w w' := by
  unfold maxLen at m0
  by_cases hbig : 1048576 < xs0.length
  · obtain ⟨ao, cap, rfl, _, _, _⟩ := h0
    rw [Mem.bs_len]
    go_enter Try.func4, Try.ntmps4
    go_wp2_with (go_at_call 5; refine (Draw.big_yes _ _ _ _ hbig).mono ?_; rintro e w1 ⟨rfl, rfl⟩)
    go_ret
    exact ⟨rfl, Below.refl _ _⟩
  have q1 := Ver.dlat_any w v0 xs0 h0 y0 (by omega)
  have qd : ∀ W, Below w.heap.size w W → _ := fun W hb => Ver.dbump_any W v0 xs0 (h0.later hb) y0 (by omega)
  obtain ⟨ao, cap0, rfl, _, _, _⟩ := h0
  rw [Mem.bs_len] at q1 qd ⊢
  go_enter Try.func4, Try.ntmps4
  go_wp2_with fail
  refine (Draw.big_no _ _ _ _ hbig).mono ?_
  rintro e w0 ⟨rfl, rfl⟩
  go_wp2_with fail
  refine q1.mono ?_
  rintro e W1 ⟨g, cap, l, rfl, hlc, hl5, hld, hcv, B1⟩
  obtain ⟨x, y, z, u, ql, huz, hle, hlm, hln⟩ := Ver.latA W1 g cap l hcv hlc hl5 hld
  have HCv : Hid (Ver.Cv W1 g l) := hcv
  have HLe : Hid (l = [] → x = 0 ∧ y = 0 ∧ z = 0 ∧ u = ⟨#[]⟩) := hle
  have HLm : Hid (¬ l = [] → (x, y, z, u) ∈ l) := hlm
  have HLn : Hid (∀ q ∈ l, decide (Ver.cmpV x y z u q.1 q.2.1 q.2.2.1 q.2.2.2 < 0) = false) := hln
  have HLd : Hid (∀ q ∈ l, Ver.Dv q.1 q.2.1 q.2.2.1 q.2.2.2) := hld
  clear q1 hcv hle hlm hln hld
  go_wp2_with fail
  refine ql.mono ?_
  rintro e W2 ⟨rfl, b2⟩
  have B2 : Below w.heap.size w W2 := B1.trans (b2.mono B1.size)
  have HB2 : Hid (Below w.heap.size w ((W2.alloc (.cells #[.int .i64 x, .int .i64 y, .int .i64 z, .string u] 25)).alloc (.cells #[.int .i64 0, .int .i64 0, .int .i64 0, .string ⟨#[]⟩] 25))) := (B2.alloc B2.size _).alloc (by simp; exact Nat.le_succ_of_le B2.size) _
  have HC2 : Hid (Ver.Cv ((W2.alloc (.cells #[.int .i64 x, .int .i64 y, .int .i64 z, .string u] 25)).alloc (.cells #[.int .i64 0, .int .i64 0, .int .i64 0, .string ⟨#[]⟩] 25)) g l) := ((HCv.out.later b2).later ((Below.refl _ _).alloc (Nat.le_refl _) _)).later ((Below.refl _ _).alloc (Nat.le_refl _) _)
  have V2 : Ver.Vr ((W2.alloc (.cells #[.int .i64 x, .int .i64 y, .int .i64 z, .string u] 25)).alloc (.cells #[.int .i64 0, .int .i64 0, .int .i64 0, .string ⟨#[]⟩] 25)) W2.heap.size x y z u := heap_alloc2_old W2 _ _
  have N2 : Ver.Vr ((W2.alloc (.cells #[.int .i64 x, .int .i64 y, .int .i64 z, .string u] 25)).alloc (.cells #[.int .i64 0, .int .i64 0, .int .i64 0, .string ⟨#[]⟩] 25)) (W2.heap.size + 1) 0 0 0 ⟨#[]⟩ := heap_alloc2_new W2 _ _
  obtain ⟨k0a, k0b, k0c, k0d⟩ := Ver.Vr.cells V2
  obtain ⟨k1a, k1b, k1c, k1d⟩ := Ver.Vr.cells N2
  have HV2 : Hid (Ver.Vr ((W2.alloc (.cells #[.int .i64 x, .int .i64 y, .int .i64 z, .string u] 25)).alloc (.cells #[.int .i64 0, .int .i64 0, .int .i64 0, .string ⟨#[]⟩] 25)) W2.heap.size x y z u) := V2
  clear V2 N2 b2 B1 ql HCv B2
  have hgd := Ver.grdV
  have hq0 := fun W => Ver.eqlV W x y z u 0 0 0 ⟨#[]⟩
  obtain ⟨s0, hs0⟩ : ∃ s, Ver.sameV x y z u 0 0 0 ⟨#[]⟩ = s := ⟨_, rfl⟩
  rw [hs0] at hq0
  have HS0 : Hid (l = [] → s0 = true) := by
    intro h
    obtain ⟨e1, e2, e3, e4⟩ := HLe.out h
    rw [← hs0]
    exact (Ver.sameV_iff _ _ _ _ _ _ _ _).2 ⟨e1, e2, e3, e4⟩
  clear hs0
  by_cases hnil : l = []
  · have hl0 : (((l.length : Int)) == 0) = true := by rw [hnil]; rfl
    have hs1 := HS0.out hnil
    subst hs1
    have HK0 : Hid (Ver.isK l x y z u 0 = true) := by show _ = _; rw [hnil]; rfl
    have hln0 : l.length ≤ 0 := by rw [hnil]; exact Nat.le_refl _
    clear hnil
    go_wp2_with fail
    go_loopw [6, 7] (fun is i wr => ∃ (k : Nat) (ik : Bool), k ≤ l.length ∧ i = .int .i64 (k : Int) ∧ is = .bool ik ∧ Hid (Ver.isK l x y z u k = ik) ∧ Ver.Vr wr W2.heap.size x y z u ∧ Ver.Cv wr g l ∧ Below w.heap.size w wr) (fun _ i _ => l.length - (intOf i).toNat)
    case atStart => exact ⟨0, true, Nat.zero_le _, rfl, rfl, HK0, HV2.out, HC2.out, HB2.out⟩
    case round =>
      obtain ⟨k, ik, hk, rfl, rfl, HI, hV, hC, hb⟩ := hrel
      clear k0a k0b k0c k0d k1a k1b k1c k1d
      by_cases hlt : k < l.length
      · exfalso; omega
      · have hik : ik = true := by rw [← HI.out]; exact Ver.isK_end (by omega) HLm.out
        subst hik
        clear hV hC
        go_wp2_with fail
        refine (qd _ hb).mono ?_
        rintro e W7 ⟨a, b, c, p, n, rfl, A1, b7⟩
        have hpz : p.size ≤ 100 := by have := A1.2.2.2; omega
        obtain ⟨x2, y2, z2, u2, hbm⟩ : ∃ x2 y2 z2 u2, Ver.bump a b c p n = (x2, y2, z2, u2) := ⟨_, _, _, _, rfl⟩
        have BF := Ver.bump_facts (a := a) (b := b) (c := c) (p := p) n
        have BS := Ver.bump_size (a := a) (b := b) (c := c) n hpz
        rw [hbm] at BF BS
        simp only at BF BS
        have qi := fun W => Ver.bumpA W a b c p n x2 y2 z2 u2 hbm hpz
        have qs := fun W => Ver.bumpB W a b c p n x2 y2 z2 u2 hbm hpz
        have B7 : Below w.heap.size w W7 := hb.trans (b7.mono hb.size)
        have B7' : Below w.heap.size w (W7.alloc (.cells #[.int .i64 a, .int .i64 b, .int .i64 c, .string p] 25)) := B7.alloc B7.size _
        have V7 : Ver.Vr (W7.alloc (.cells #[.int .i64 a, .int .i64 b, .int .i64 c, .string p] 25)) W7.heap.size a b c p := heap_alloc_new W7 _
        obtain ⟨k0a, k0b, k0c, k0d⟩ := Ver.Vr.cells V7
        have HV7 : Hid (Ver.Vr (W7.alloc (.cells #[.int .i64 a, .int .i64 b, .int .i64 c, .string p] 25)) W7.heap.size a b c p) := V7
        clear hbm V7 B7 b7 hb qd A1
        go_wp2_with fail
        refine (qi _).mono ?_
        rintro e W8 ⟨rfl, b8⟩
        have B8 : Below w.heap.size w W8 := B7'.trans (b8.mono B7'.size)
        have B8' : Below w.heap.size w (W8.alloc (.cells #[.int .i64 x2, .int .i64 y2, .int .i64 z2, .string u2] 25)) := B8.alloc B8.size _
        have V8 : Ver.Vr (W8.alloc (.cells #[.int .i64 x2, .int .i64 y2, .int .i64 z2, .string u2] 25)) W7.heap.size a b c p := Ver.Vr.same (Ver.Vr.same HV7.out b8) ((Below.refl _ _).alloc (Nat.le_refl _) _)
        have V9 : Ver.Vr (W8.alloc (.cells #[.int .i64 x2, .int .i64 y2, .int .i64 z2, .string u2] 25)) W8.heap.size x2 y2 z2 u2 := heap_alloc_new W8 _
        clear k0a k0b k0c k0d HV7 B7' b8 B8 qi
        obtain ⟨k0a, k0b, k0c, k0d⟩ := Ver.Vr.cells V8
        obtain ⟨k1a, k1b, k1c, k1d⟩ := Ver.Vr.cells V9
        clear V8 V9
        have hqw := fun W => Ver.eqlV W x2 y2 z2 u2 x2 y2 z2 u2
        rw [(Ver.sameV_iff x2 y2 z2 u2 x2 y2 z2 u2).2 ⟨rfl, rfl, rfl, rfl⟩] at hqw
        have hqu := fun W => Ver.eqlV W x2 y2 z2 u2 a b c p
        obtain ⟨se, hse⟩ : ∃ s, Ver.sameV x2 y2 z2 u2 a b c p = s := ⟨_, rfl⟩
        rw [hse] at hqu
        have HSe : Hid (Ver.sameV x2 y2 z2 u2 a b c p = se) := hse
        have HBF : Hid _ := BF
        clear hse BF
        cases se
        · have HF : Hid (decide (Ver.cmpV a b c p x2 y2 z2 u2 < 0) = true ∧ Ver.okV x2 y2 z2 u2 = true ∧ u2 = ⟨#[]⟩) := by
            rcases HBF.out with h | h
            · exfalso
              simp only [Prod.mk.injEq] at h
              obtain ⟨h1, h2, h3, h4⟩ := h
              have := HSe.out
              rw [(Ver.sameV_iff _ _ _ _ _ _ _ _).2 ⟨h1, h2, h3, h4⟩] at this
              cases this
            · exact h
          have ql := fun W => Ver.lessA W a b c p x2 y2 z2 u2 true HF.out.1 hpz BS
          have qk := fun W => Ver.okA W x2 y2 z2 u2 true HF.out.2.1 BS
          have hue : u2.toList.isEmpty = true := by rw [Ver.toList_empty, HF.out.2.2]; rfl
          go_wp2_with fail
          go_region_held3 (fun w' => w'.cell? ⟨W7.heap.size, 0, none⟩ = some (.int .i64 a) ∧ w'.cell? ⟨W7.heap.size, 1, none⟩ = some (.int .i64 b) ∧ w'.cell? ⟨W7.heap.size, 2, none⟩ = some (.int .i64 c) ∧ w'.cell? ⟨W7.heap.size, 3, none⟩ = some (.string p) ∧ w'.cell? ⟨W8.heap.size, 0, none⟩ = some (.int .i64 x2) ∧ w'.cell? ⟨W8.heap.size, 1, none⟩ = some (.int .i64 y2) ∧ w'.cell? ⟨W8.heap.size, 2, none⟩ = some (.int .i64 z2) ∧ w'.cell? ⟨W8.heap.size, 3, none⟩ = some (.string u2))
            (first | exact ⟨k0a, k0b, k0c, k0d, k1a, k1b, k1c, k1d⟩ | go_keep | (go_split_ands; refine ⟨Ver.keepCell ?_ bb5, Ver.keepCell ?_ bb5, Ver.keepCell ?_ bb5, Ver.keepCell ?_ bb5, Ver.keepCell ?_ bb5, Ver.keepCell ?_ bb5, Ver.keepCell ?_ bb5, Ver.keepCell ?_ bb5⟩ <;> assumption) | (go_split_ands; refine ⟨Ver.keepCell ?_ bb6, Ver.keepCell ?_ bb6, Ver.keepCell ?_ bb6, Ver.keepCell ?_ bb6, Ver.keepCell ?_ bb6, Ver.keepCell ?_ bb6, Ver.keepCell ?_ bb6, Ver.keepCell ?_ bb6⟩ <;> assumption) | (go_split_ands; refine ⟨Ver.keepCell ?_ bb7, Ver.keepCell ?_ bb7, Ver.keepCell ?_ bb7, Ver.keepCell ?_ bb7, Ver.keepCell ?_ bb7, Ver.keepCell ?_ bb7, Ver.keepCell ?_ bb7, Ver.keepCell ?_ bb7⟩ <;> assumption))
            (first | (go_at_call 13; refine (qs _).mono ?_; rintro e5 w5 ⟨rfl, bb5⟩) | (go_at_call 7; refine (ql _).mono ?_; rintro e6 w6 ⟨rfl, bb6⟩) | (go_at_call 14; refine (qk _).mono ?_; rintro e7 w7 ⟨rfl, bb7⟩))
          have C5 : Below w.heap.size w w5 := (Below.drew B8').trans (bb5.mono B8'.size)
          have C6 : Below w.heap.size w w6 := C5.trans (bb6.mono C5.size)
          have C7 : Below w.heap.size w w7 := C6.trans (bb7.mono C6.size)
          clear k0a k0b k0c k0d k1a k1b k1c k1d bb5 bb6 bb7 B8' C5 C6
          go_wp2_with fail
          go_ret
          exact ⟨rfl, C7⟩
        · go_wp2_with fail
          refine wp_region_held_drew (S := fun w' => w'.cell? ⟨W7.heap.size, 0, none⟩ = some (.int .i64 a) ∧ w'.cell? ⟨W7.heap.size, 1, none⟩ = some (.int .i64 b) ∧ w'.cell? ⟨W7.heap.size, 2, none⟩ = some (.int .i64 c) ∧ w'.cell? ⟨W7.heap.size, 3, none⟩ = some (.string p) ∧ w'.cell? ⟨W8.heap.size, 0, none⟩ = some (.int .i64 x2) ∧ w'.cell? ⟨W8.heap.size, 1, none⟩ = some (.int .i64 y2) ∧ w'.cell? ⟨W8.heap.size, 2, none⟩ = some (.int .i64 z2) ∧ w'.cell? ⟨W8.heap.size, 3, none⟩ = some (.string u2)) (by kernel_rfl) ⟨k0a, k0b, k0c, k0d, k1a, k1b, k1c, k1d⟩ (fun hHeld => ?_)
          refine wpAnyH_take (i := 0) (v := (.bool true)) rfl (by kernel_rfl) (by kernel_rfl) (by kernel_rfl) (fun _ _ _ h => h) (Or.inl ⟨by rfl, ?_⟩) (by assumption) ?_
          · (intro w hSw; (try dsimp only at hSw); go_split_ands; go_simp)
          simp only [Act.put, List.setIfInBounds_toArray, List.set_cons_zero, List.set_cons_succ, List.getElem_toArray, List.getElem_cons_zero, List.getElem_cons_succ]
          refine wpAnyH_take (i := 1) (v := (.bool true)) rfl (by kernel_rfl) (by kernel_rfl) (by kernel_rfl) (fun _ _ _ h => h) (Or.inl ⟨by rfl, ?_⟩) (by assumption) ?_
          · (intro w hSw; (try dsimp only at hSw); go_split_ands; go_simp)
          simp only [Act.put, List.setIfInBounds_toArray, List.set_cons_zero, List.set_cons_succ, List.getElem_toArray, List.getElem_cons_zero, List.getElem_cons_succ]
          refine wpAnyH_take (i := 2) (v := (.agg #[.int .i64 x2, .int .i64 y2, .int .i64 z2, .string u2])) rfl (by kernel_rfl) (by kernel_rfl) (by kernel_rfl) (fun _ _ _ h => h) (Or.inl ⟨by rfl, ?_⟩) (by assumption) ?_
          · (intro w hSw; (try dsimp only at hSw); go_split_ands; go_simp)
          simp only [Act.put, List.setIfInBounds_toArray, List.set_cons_zero, List.set_cons_succ, List.getElem_toArray, List.getElem_cons_zero, List.getElem_cons_succ]
          refine wpAnyH_take (i := 3) (v := (.agg #[.int .i64 a, .int .i64 b, .int .i64 c, .string p])) rfl (by kernel_rfl) (by kernel_rfl) (by kernel_rfl) (fun _ _ _ h => h) (Or.inl ⟨by rfl, ?_⟩) (by assumption) ?_
          · (intro w hSw; (try dsimp only at hSw); go_split_ands; go_simp)
          simp only [Act.put, List.setIfInBounds_toArray, List.set_cons_zero, List.set_cons_succ, List.getElem_toArray, List.getElem_cons_zero, List.getElem_cons_succ]
          refine wpAnyH_take (i := 4) (v := (.int .i64 n)) rfl (by kernel_rfl) (by kernel_rfl) (by kernel_rfl) (fun _ _ _ h => h) (Or.inl ⟨by rfl, ?_⟩) (by assumption) ?_
          · (intro w hSw; (try dsimp only at hSw); go_split_ands; go_simp)
          simp only [Act.put, List.setIfInBounds_toArray, List.set_cons_zero, List.set_cons_succ, List.getElem_toArray, List.getElem_cons_zero, List.getElem_cons_succ]
          refine wpAnyH_ready (rs := [5]) (by kernel_rfl) (by simp) ?_
          refine AllReadyH.cons rfl (fun K hK => ?_) AllReadyH.nil
          go_simp
          refine (qs _).mono ?_
          rintro e5 w5 ⟨rfl, bb5⟩
          refine hK.out _ _ ?_ (fun hHeld5 => ?_)
          · obtain ⟨s1, s2, s3, s4, s5, s6, s7, s8⟩ := hHeld
            exact ⟨Ver.keepCell s1 bb5, Ver.keepCell s2 bb5, Ver.keepCell s3 bb5, Ver.keepCell s4 bb5, Ver.keepCell s5 bb5, Ver.keepCell s6 bb5, Ver.keepCell s7 bb5, Ver.keepCell s8 bb5⟩
          clear hK K hHeld
          try simp only [Act.put, List.setIfInBounds_toArray, List.set_cons_zero, List.set_cons_succ]
          refine wpAnyH_take (i := 6) (v := (.bool true)) rfl (by kernel_rfl) (by kernel_rfl) (by kernel_rfl) (fun _ _ _ h => h) (Or.inl ⟨by rfl, ?_⟩) (by assumption) ?_
          · (intro w hSw; (try dsimp only at hSw); go_split_ands; go_simp)
          simp only [Act.put, List.setIfInBounds_toArray, List.set_cons_zero, List.set_cons_succ, List.getElem_toArray, List.getElem_cons_zero, List.getElem_cons_succ]
          refine wpAnyH_take (i := 7) (v := (.bool true)) rfl (by kernel_rfl) (by kernel_rfl) (by kernel_rfl) (fun _ _ _ h => h) (Or.inl ⟨by rfl, ?_⟩) (by assumption) ?_
          · (intro w hSw; (try dsimp only at hSw); go_split_ands; go_simp)
          simp only [Act.put, List.setIfInBounds_toArray, List.set_cons_zero, List.set_cons_succ, List.getElem_toArray, List.getElem_cons_zero, List.getElem_cons_succ]
          refine wpAnyH_take (i := 8) (v := (.bool true)) rfl (by kernel_rfl) (by kernel_rfl) (by kernel_rfl) (fun _ _ _ h => h) (Or.inl ⟨by rfl, ?_⟩) (by assumption) ?_
          · (intro w hSw; (try dsimp only at hSw); go_split_ands; go_simp)
          simp only [Act.put, List.setIfInBounds_toArray, List.set_cons_zero, List.set_cons_succ, List.getElem_toArray, List.getElem_cons_zero, List.getElem_cons_succ]
          refine wpAnyH_take (i := 9) (v := (.agg #[.int .i64 x2, .int .i64 y2, .int .i64 z2, .string u2])) rfl (by kernel_rfl) (by kernel_rfl) (by kernel_rfl) (fun _ _ _ h => h) (Or.inl ⟨by rfl, ?_⟩) (by assumption) ?_
          · (intro w hSw; (try dsimp only at hSw); go_split_ands; go_simp)
          simp only [Act.put, List.setIfInBounds_toArray, List.set_cons_zero, List.set_cons_succ, List.getElem_toArray, List.getElem_cons_zero, List.getElem_cons_succ]
          refine wpAnyH_take (i := 10) (v := (.agg #[.int .i64 a, .int .i64 b, .int .i64 c, .string p])) rfl (by kernel_rfl) (by kernel_rfl) (by kernel_rfl) (fun _ _ _ h => h) (Or.inl ⟨by rfl, ?_⟩) (by assumption) ?_
          · (intro w hSw; (try dsimp only at hSw); go_split_ands; go_simp)
          simp only [Act.put, List.setIfInBounds_toArray, List.set_cons_zero, List.set_cons_succ, List.getElem_toArray, List.getElem_cons_zero, List.getElem_cons_succ]
          refine wpAnyH_take (i := 11) (v := (.bool true)) rfl (by kernel_rfl) (by kernel_rfl) (by kernel_rfl) (fun _ _ _ h => h) (Or.inl ⟨by rfl, ?_⟩) (by assumption) ?_
          · (intro w hSw; (try dsimp only at hSw); go_split_ands; go_simp)
          simp only [Act.put, List.setIfInBounds_toArray, List.set_cons_zero, List.set_cons_succ, List.getElem_toArray, List.getElem_cons_zero, List.getElem_cons_succ]
          refine wpAnyH_take (i := 12) (v := (.bool true)) rfl (by kernel_rfl) (by kernel_rfl) (by kernel_rfl) (fun _ _ _ h => h) (Or.inl ⟨by rfl, ?_⟩) (by assumption) ?_
          · (intro w hSw; (try dsimp only at hSw); go_split_ands; go_simp)
          simp only [Act.put, List.setIfInBounds_toArray, List.set_cons_zero, List.set_cons_succ, List.getElem_toArray, List.getElem_cons_zero, List.getElem_cons_succ]
          refine wpAnyH_take (i := 13) (v := undef) rfl (by kernel_rfl) (by kernel_rfl) (by kernel_rfl) (fun _ _ _ h => h) (Or.inr ⟨by rfl, rfl⟩) (by assumption) ?_
          simp only [Act.put, List.setIfInBounds_toArray, List.set_cons_zero, List.set_cons_succ, List.getElem_toArray, List.getElem_cons_zero, List.getElem_cons_succ]
          refine wpAnyH_take (i := 14) (v := undef) rfl (by kernel_rfl) (by kernel_rfl) (by kernel_rfl) (fun _ _ _ h => h) (Or.inr ⟨by rfl, rfl⟩) (by assumption) ?_
          simp only [Act.put, List.setIfInBounds_toArray, List.set_cons_zero, List.set_cons_succ, List.getElem_toArray, List.getElem_cons_zero, List.getElem_cons_succ]
          refine wpAnyH_take (i := 15) (v := undef) rfl (by kernel_rfl) (by kernel_rfl) (by kernel_rfl) (fun _ _ _ h => h) (Or.inr ⟨by rfl, rfl⟩) (by assumption) ?_
          simp only [Act.put, List.setIfInBounds_toArray, List.set_cons_zero, List.set_cons_succ, List.getElem_toArray, List.getElem_cons_zero, List.getElem_cons_succ]
          refine wpAnyH_take (i := 16) (v := undef) rfl (by kernel_rfl) (by kernel_rfl) (by kernel_rfl) (fun _ _ _ h => h) (Or.inr ⟨by rfl, rfl⟩) (by assumption) ?_
          simp only [Act.put, List.setIfInBounds_toArray, List.set_cons_zero, List.set_cons_succ, List.getElem_toArray, List.getElem_cons_zero, List.getElem_cons_succ]
          refine wpAnyH_take (i := 17) (v := undef) rfl (by kernel_rfl) (by kernel_rfl) (by kernel_rfl) (fun _ _ _ h => h) (Or.inr ⟨by rfl, rfl⟩) (by assumption) ?_
          simp only [Act.put, List.setIfInBounds_toArray, List.set_cons_zero, List.set_cons_succ, List.getElem_toArray, List.getElem_cons_zero, List.getElem_cons_succ]
          refine wpAnyH_take (i := 18) (v := undef) rfl (by kernel_rfl) (by kernel_rfl) (by kernel_rfl) (fun _ _ _ h => h) (Or.inr ⟨by rfl, rfl⟩) (by assumption) ?_
          simp only [Act.put, List.setIfInBounds_toArray, List.set_cons_zero, List.set_cons_succ, List.getElem_toArray, List.getElem_cons_zero, List.getElem_cons_succ]
          refine wpAnyH_take (i := 19) (v := undef) rfl (by kernel_rfl) (by kernel_rfl) (by kernel_rfl) (fun _ _ _ h => h) (Or.inr ⟨by rfl, rfl⟩) (by assumption) ?_
          simp only [Act.put, List.setIfInBounds_toArray, List.set_cons_zero, List.set_cons_succ, List.getElem_toArray, List.getElem_cons_zero, List.getElem_cons_succ]
          refine wpAnyH_take (i := 20) (v := undef) rfl (by kernel_rfl) (by kernel_rfl) (by kernel_rfl) (fun _ _ _ h => h) (Or.inr ⟨by rfl, rfl⟩) (by assumption) ?_
          simp only [Act.put, List.setIfInBounds_toArray, List.set_cons_zero, List.set_cons_succ, List.getElem_toArray, List.getElem_cons_zero, List.getElem_cons_succ]
          refine wpAnyH_take (i := 21) (v := undef) rfl (by kernel_rfl) (by kernel_rfl) (by kernel_rfl) (fun _ _ _ h => h) (Or.inr ⟨by rfl, rfl⟩) (by assumption) ?_
          simp only [Act.put, List.setIfInBounds_toArray, List.set_cons_zero, List.set_cons_succ, List.getElem_toArray, List.getElem_cons_zero, List.getElem_cons_succ]
          refine wpAnyH_take (i := 22) (v := undef) rfl (by kernel_rfl) (by kernel_rfl) (by kernel_rfl) (fun _ _ _ h => h) (Or.inr ⟨by rfl, rfl⟩) (by assumption) ?_
          simp only [Act.put, List.setIfInBounds_toArray, List.set_cons_zero, List.set_cons_succ, List.getElem_toArray, List.getElem_cons_zero, List.getElem_cons_succ]
          refine wpAnyH_take (i := 23) (v := undef) rfl (by kernel_rfl) (by kernel_rfl) (by kernel_rfl) (fun _ _ _ h => h) (Or.inr ⟨by rfl, rfl⟩) (by assumption) ?_
          simp only [Act.put, List.setIfInBounds_toArray, List.set_cons_zero, List.set_cons_succ, List.getElem_toArray, List.getElem_cons_zero, List.getElem_cons_succ]
          refine wpAnyH_take (i := 24) (v := undef) rfl (by kernel_rfl) (by kernel_rfl) (by kernel_rfl) (fun _ _ _ h => h) (Or.inr ⟨by rfl, rfl⟩) (by assumption) ?_
          simp only [Act.put, List.setIfInBounds_toArray, List.set_cons_zero, List.set_cons_succ, List.getElem_toArray, List.getElem_cons_zero, List.getElem_cons_succ]
          refine wpAnyH_take (i := 25) (v := (.bool true)) rfl (by kernel_rfl) (by kernel_rfl) (by kernel_rfl) (fun _ _ _ h => h) (Or.inl ⟨by rfl, ?_⟩) (by assumption) ?_
          · (intro w hSw; (try dsimp only at hSw); go_split_ands; go_simp)
          simp only [Act.put, List.setIfInBounds_toArray, List.set_cons_zero, List.set_cons_succ, List.getElem_toArray, List.getElem_cons_zero, List.getElem_cons_succ]
          refine wpAnyH_take (i := 26) (v := (.bool true)) rfl (by kernel_rfl) (by kernel_rfl) (by kernel_rfl) (fun _ _ _ h => h) (Or.inl ⟨by rfl, ?_⟩) (by assumption) ?_
          · (intro w hSw; (try dsimp only at hSw); go_split_ands; go_simp)
          simp only [Act.put, List.setIfInBounds_toArray, List.set_cons_zero, List.set_cons_succ, List.getElem_toArray, List.getElem_cons_zero, List.getElem_cons_succ]
          refine wpAnyH_take (i := 27) (v := (.bool true)) rfl (by kernel_rfl) (by kernel_rfl) (by kernel_rfl) (fun _ _ _ h => h) (Or.inl ⟨by rfl, ?_⟩) (by assumption) ?_
          · (intro w hSw; (try dsimp only at hSw); go_split_ands; go_simp)
          simp only [Act.put, List.setIfInBounds_toArray, List.set_cons_zero, List.set_cons_succ, List.getElem_toArray, List.getElem_cons_zero, List.getElem_cons_succ]
          refine wpAnyH_done (by kernel_rfl) ?_ _
          have C5 : Below w.heap.size w w5 := (Below.drew B8').trans (bb5.mono B8'.size)
          clear k0a k0b k0c k0d k1a k1b k1c k1d bb5 B8' hHeld5
          go_wp2_with fail
          go_ret
          exact ⟨rfl, C5⟩
  · have hl0 : (((l.length : Int)) == 0) = false := by
      have : 0 < l.length := List.length_pos_iff.2 hnil
      simp; omega
    have HK0 : Hid (Ver.isK l x y z u 0 = false) := by
      show _ = _
      have : 0 < l.length := List.length_pos_iff.2 hnil
      unfold Ver.isK
      simp; omega
    clear hnil
    go_wp2_with fail
    go_loopw [6, 7] (fun is i wr => ∃ (k : Nat) (ik : Bool), k ≤ l.length ∧ i = .int .i64 (k : Int) ∧ is = .bool ik ∧ Hid (Ver.isK l x y z u k = ik) ∧ Ver.Vr wr W2.heap.size x y z u ∧ Ver.Cv wr g l ∧ Below w.heap.size w wr) (fun _ i _ => l.length - (intOf i).toNat)
    case atStart => exact ⟨0, false, Nat.zero_le _, rfl, rfl, HK0, HV2.out, HC2.out, HB2.out⟩
    case round =>
      obtain ⟨k, ik, hk, rfl, rfl, HI, hV, hC, hb⟩ := hrel
      clear k0a k0b k0c k0d k1a k1b k1c k1d
      by_cases hlt : k < l.length
      · obtain ⟨⟨a, b, c, p⟩, hq⟩ : ∃ q, l[k]? = some q := ⟨l[k], by simp [hlt]⟩
        have hm := List.mem_of_getElem? hq
        have hpz : p.size ≤ 100 := by have := (HLd.out _ hm).any.2.2.2; simp only at this; omega
        have ql := fun W => Ver.lessA W x y z u a b c p false (HLn.out _ hm) huz hpz
        obtain ⟨j0, j1, j2, j3⟩ := hC k (a, b, c, p) hq
        rw [Nat.mul_comm 4 k] at j0 j1 j2 j3
        simp only at j0 j1 j2 j3
        obtain ⟨k0a, k0b, k0c, k0d⟩ := Ver.Vr.cells hV
        obtain ⟨sm, hsm⟩ : ∃ s, Ver.sameV a b c p x y z u = s := ⟨_, rfl⟩
        have HK1 : Hid (Ver.isK l x y z u (k + 1) = (ik || sm)) := by show _ = _; rw [Ver.isK_step hq, HI.out]; simp only [hsm]
        have hqe := fun W => Ver.eqlV W a b c p x y z u
        rw [hsm] at hqe
        have HCr : Hid (Ver.Cv wr g l) := hC
        have HVr : Hid (Ver.Vr wr W2.heap.size x y z u) := hV
        have HBr : Hid (Below w.heap.size w wr) := hb
        clear hm hq hsm hC hV hb
        go_wp2_with fail
        go_region_held3 (fun w' => w'.cell? ⟨W2.heap.size, 0, none⟩ = some (.int .i64 x) ∧ w'.cell? ⟨W2.heap.size, 1, none⟩ = some (.int .i64 y) ∧ w'.cell? ⟨W2.heap.size, 2, none⟩ = some (.int .i64 z) ∧ w'.cell? ⟨W2.heap.size, 3, none⟩ = some (.string u) ∧ w'.cell? ⟨g, k * 4, none⟩ = some (.int .i64 a) ∧ w'.cell? ⟨g, k * 4 + 1, none⟩ = some (.int .i64 b) ∧ w'.cell? ⟨g, k * 4 + 2, none⟩ = some (.int .i64 c) ∧ w'.cell? ⟨g, k * 4 + 3, none⟩ = some (.string p))
          (first | exact ⟨k0a, k0b, k0c, k0d, j0, j1, j2, j3⟩ | go_keep | (go_split_ands; refine ⟨Ver.keepCell ?_ bb5, Ver.keepCell ?_ bb5, Ver.keepCell ?_ bb5, Ver.keepCell ?_ bb5, Ver.keepCell ?_ bb5, Ver.keepCell ?_ bb5, Ver.keepCell ?_ bb5, Ver.keepCell ?_ bb5⟩ <;> assumption))
          (first | (go_at_call 7; refine (ql _).mono ?_; rintro e5 w5 ⟨rfl, bb5⟩))
        have V5 : Ver.Vr w5 W2.heap.size x y z u := Ver.Vr.same (Ver.Vr.drew HVr.out) bb5
        have C5 : Ver.Cv w5 g l := Ver.Cv.later (w := wr.drew) HCr.out bb5
        have B5 : Below w.heap.size w w5 := (Below.drew HBr.out).trans (bb5.mono HBr.out.size)
        have j0' := Ver.keepCell (W := wr.drew) j0 bb5
        have j1' := Ver.keepCell (W := wr.drew) j1 bb5
        have j2' := Ver.keepCell (W := wr.drew) j2 bb5
        have j3' := Ver.keepCell (W := wr.drew) j3 bb5
        have i0' := Ver.keepCell (W := wr.drew) k0a bb5
        have i1' := Ver.keepCell (W := wr.drew) k0b bb5
        have i2' := Ver.keepCell (W := wr.drew) k0c bb5
        have i3' := Ver.keepCell (W := wr.drew) k0d bb5
        have HV5 : Hid _ := V5
        have HC5 : Hid _ := C5
        have HB5 : Hid _ := B5
        clear HVr HCr HBr j0 j1 j2 j3 k0a k0b k0c k0d bb5 ql V5 C5 B5
        cases ik
        · go_wp2_with fail
          go_quiet (fail)
          go_wp2_with fail
          go_roundw
          case rel => exact ⟨k + 1, sm, by omega, by go_num, rfl, by show _ = _; rw [HK1.out]; rfl, HV5.out, HC5.out, Below.trans HB5.out ⟨rfl, rfl, rfl, Nat.le_refl _, fun _ _ => rfl⟩⟩
          case measure => simp [intOf]; omega
        · go_wp2_with fail
          go_quiet (fail)
          go_wp2_with fail
          go_roundw
          case rel => exact ⟨k + 1, true, by omega, by go_num, rfl, by show _ = _; rw [HK1.out]; rfl, HV5.out, HC5.out, Below.trans HB5.out ⟨rfl, rfl, rfl, Nat.le_refl _, fun _ _ => rfl⟩⟩
          case measure => simp [intOf]; omega
      · have hik : ik = true := by rw [← HI.out]; exact Ver.isK_end (by omega) HLm.out
        subst hik
        clear hV hC
        go_wp2_with fail
        refine (qd _ hb).mono ?_
        rintro e W7 ⟨a, b, c, p, n, rfl, A1, b7⟩
        have hpz : p.size ≤ 100 := by have := A1.2.2.2; omega
        obtain ⟨x2, y2, z2, u2, hbm⟩ : ∃ x2 y2 z2 u2, Ver.bump a b c p n = (x2, y2, z2, u2) := ⟨_, _, _, _, rfl⟩
        have BF := Ver.bump_facts (a := a) (b := b) (c := c) (p := p) n
        have BS := Ver.bump_size (a := a) (b := b) (c := c) n hpz
        rw [hbm] at BF BS
        simp only at BF BS
        have qi := fun W => Ver.bumpA W a b c p n x2 y2 z2 u2 hbm hpz
        have qs := fun W => Ver.bumpB W a b c p n x2 y2 z2 u2 hbm hpz
        have B7 : Below w.heap.size w W7 := hb.trans (b7.mono hb.size)
        have B7' : Below w.heap.size w (W7.alloc (.cells #[.int .i64 a, .int .i64 b, .int .i64 c, .string p] 25)) := B7.alloc B7.size _
        have V7 : Ver.Vr (W7.alloc (.cells #[.int .i64 a, .int .i64 b, .int .i64 c, .string p] 25)) W7.heap.size a b c p := heap_alloc_new W7 _
        obtain ⟨k0a, k0b, k0c, k0d⟩ := Ver.Vr.cells V7
        have HV7 : Hid (Ver.Vr (W7.alloc (.cells #[.int .i64 a, .int .i64 b, .int .i64 c, .string p] 25)) W7.heap.size a b c p) := V7
        clear hbm V7 B7 b7 hb qd A1
        go_wp2_with fail
        refine (qi _).mono ?_
        rintro e W8 ⟨rfl, b8⟩
        have B8 : Below w.heap.size w W8 := B7'.trans (b8.mono B7'.size)
        have B8' : Below w.heap.size w (W8.alloc (.cells #[.int .i64 x2, .int .i64 y2, .int .i64 z2, .string u2] 25)) := B8.alloc B8.size _
        have V8 : Ver.Vr (W8.alloc (.cells #[.int .i64 x2, .int .i64 y2, .int .i64 z2, .string u2] 25)) W7.heap.size a b c p := Ver.Vr.same (Ver.Vr.same HV7.out b8) ((Below.refl _ _).alloc (Nat.le_refl _) _)
        have V9 : Ver.Vr (W8.alloc (.cells #[.int .i64 x2, .int .i64 y2, .int .i64 z2, .string u2] 25)) W8.heap.size x2 y2 z2 u2 := heap_alloc_new W8 _
        clear k0a k0b k0c k0d HV7 B7' b8 B8 qi
        obtain ⟨k0a, k0b, k0c, k0d⟩ := Ver.Vr.cells V8
        obtain ⟨k1a, k1b, k1c, k1d⟩ := Ver.Vr.cells V9
        clear V8 V9
        have hqw := fun W => Ver.eqlV W x2 y2 z2 u2 x2 y2 z2 u2
        rw [(Ver.sameV_iff x2 y2 z2 u2 x2 y2 z2 u2).2 ⟨rfl, rfl, rfl, rfl⟩] at hqw
        have hqu := fun W => Ver.eqlV W x2 y2 z2 u2 a b c p
        obtain ⟨se, hse⟩ : ∃ s, Ver.sameV x2 y2 z2 u2 a b c p = s := ⟨_, rfl⟩
        rw [hse] at hqu
        have HSe : Hid (Ver.sameV x2 y2 z2 u2 a b c p = se) := hse
        have HBF : Hid _ := BF
        clear hse BF
        cases se
        · have HF : Hid (decide (Ver.cmpV a b c p x2 y2 z2 u2 < 0) = true ∧ Ver.okV x2 y2 z2 u2 = true ∧ u2 = ⟨#[]⟩) := by
            rcases HBF.out with h | h
            · exfalso
              simp only [Prod.mk.injEq] at h
              obtain ⟨h1, h2, h3, h4⟩ := h
              have := HSe.out
              rw [(Ver.sameV_iff _ _ _ _ _ _ _ _).2 ⟨h1, h2, h3, h4⟩] at this
              cases this
            · exact h
          have ql := fun W => Ver.lessA W a b c p x2 y2 z2 u2 true HF.out.1 hpz BS
          have qk := fun W => Ver.okA W x2 y2 z2 u2 true HF.out.2.1 BS
          have hue : u2.toList.isEmpty = true := by rw [Ver.toList_empty, HF.out.2.2]; rfl
          go_wp2_with fail
          go_region_held3 (fun w' => w'.cell? ⟨W7.heap.size, 0, none⟩ = some (.int .i64 a) ∧ w'.cell? ⟨W7.heap.size, 1, none⟩ = some (.int .i64 b) ∧ w'.cell? ⟨W7.heap.size, 2, none⟩ = some (.int .i64 c) ∧ w'.cell? ⟨W7.heap.size, 3, none⟩ = some (.string p) ∧ w'.cell? ⟨W8.heap.size, 0, none⟩ = some (.int .i64 x2) ∧ w'.cell? ⟨W8.heap.size, 1, none⟩ = some (.int .i64 y2) ∧ w'.cell? ⟨W8.heap.size, 2, none⟩ = some (.int .i64 z2) ∧ w'.cell? ⟨W8.heap.size, 3, none⟩ = some (.string u2))
            (first | exact ⟨k0a, k0b, k0c, k0d, k1a, k1b, k1c, k1d⟩ | go_keep | (go_split_ands; refine ⟨Ver.keepCell ?_ bb5, Ver.keepCell ?_ bb5, Ver.keepCell ?_ bb5, Ver.keepCell ?_ bb5, Ver.keepCell ?_ bb5, Ver.keepCell ?_ bb5, Ver.keepCell ?_ bb5, Ver.keepCell ?_ bb5⟩ <;> assumption) | (go_split_ands; refine ⟨Ver.keepCell ?_ bb6, Ver.keepCell ?_ bb6, Ver.keepCell ?_ bb6, Ver.keepCell ?_ bb6, Ver.keepCell ?_ bb6, Ver.keepCell ?_ bb6, Ver.keepCell ?_ bb6, Ver.keepCell ?_ bb6⟩ <;> assumption) | (go_split_ands; refine ⟨Ver.keepCell ?_ bb7, Ver.keepCell ?_ bb7, Ver.keepCell ?_ bb7, Ver.keepCell ?_ bb7, Ver.keepCell ?_ bb7, Ver.keepCell ?_ bb7, Ver.keepCell ?_ bb7, Ver.keepCell ?_ bb7⟩ <;> assumption))
            (first | (go_at_call 13; refine (qs _).mono ?_; rintro e5 w5 ⟨rfl, bb5⟩) | (go_at_call 7; refine (ql _).mono ?_; rintro e6 w6 ⟨rfl, bb6⟩) | (go_at_call 14; refine (qk _).mono ?_; rintro e7 w7 ⟨rfl, bb7⟩))
          have C5 : Below w.heap.size w w5 := (Below.drew B8').trans (bb5.mono B8'.size)
          have C6 : Below w.heap.size w w6 := C5.trans (bb6.mono C5.size)
          have C7 : Below w.heap.size w w7 := C6.trans (bb7.mono C6.size)
          clear k0a k0b k0c k0d k1a k1b k1c k1d bb5 bb6 bb7 B8' C5 C6
          go_wp2_with fail
          go_ret
          exact ⟨rfl, C7⟩
        · go_wp2_with fail
          refine wp_region_held_drew (S := fun w' => w'.cell? ⟨W7.heap.size, 0, none⟩ = some (.int .i64 a) ∧ w'.cell? ⟨W7.heap.size, 1, none⟩ = some (.int .i64 b) ∧ w'.cell? ⟨W7.heap.size, 2, none⟩ = some (.int .i64 c) ∧ w'.cell? ⟨W7.heap.size, 3, none⟩ = some (.string p) ∧ w'.cell? ⟨W8.heap.size, 0, none⟩ = some (.int .i64 x2) ∧ w'.cell? ⟨W8.heap.size, 1, none⟩ = some (.int .i64 y2) ∧ w'.cell? ⟨W8.heap.size, 2, none⟩ = some (.int .i64 z2) ∧ w'.cell? ⟨W8.heap.size, 3, none⟩ = some (.string u2)) (by kernel_rfl) ⟨k0a, k0b, k0c, k0d, k1a, k1b, k1c, k1d⟩ (fun hHeld => ?_)
          refine wpAnyH_take (i := 0) (v := (.bool true)) rfl (by kernel_rfl) (by kernel_rfl) (by kernel_rfl) (fun _ _ _ h => h) (Or.inl ⟨by rfl, ?_⟩) (by assumption) ?_
          · (intro w hSw; (try dsimp only at hSw); go_split_ands; go_simp)
          simp only [Act.put, List.setIfInBounds_toArray, List.set_cons_zero, List.set_cons_succ, List.getElem_toArray, List.getElem_cons_zero, List.getElem_cons_succ]
          refine wpAnyH_take (i := 1) (v := (.bool true)) rfl (by kernel_rfl) (by kernel_rfl) (by kernel_rfl) (fun _ _ _ h => h) (Or.inl ⟨by rfl, ?_⟩) (by assumption) ?_
          · (intro w hSw; (try dsimp only at hSw); go_split_ands; go_simp)
          simp only [Act.put, List.setIfInBounds_toArray, List.set_cons_zero, List.set_cons_succ, List.getElem_toArray, List.getElem_cons_zero, List.getElem_cons_succ]
          refine wpAnyH_take (i := 2) (v := (.agg #[.int .i64 x2, .int .i64 y2, .int .i64 z2, .string u2])) rfl (by kernel_rfl) (by kernel_rfl) (by kernel_rfl) (fun _ _ _ h => h) (Or.inl ⟨by rfl, ?_⟩) (by assumption) ?_
          · (intro w hSw; (try dsimp only at hSw); go_split_ands; go_simp)
          simp only [Act.put, List.setIfInBounds_toArray, List.set_cons_zero, List.set_cons_succ, List.getElem_toArray, List.getElem_cons_zero, List.getElem_cons_succ]
          refine wpAnyH_take (i := 3) (v := (.agg #[.int .i64 a, .int .i64 b, .int .i64 c, .string p])) rfl (by kernel_rfl) (by kernel_rfl) (by kernel_rfl) (fun _ _ _ h => h) (Or.inl ⟨by rfl, ?_⟩) (by assumption) ?_
          · (intro w hSw; (try dsimp only at hSw); go_split_ands; go_simp)
          simp only [Act.put, List.setIfInBounds_toArray, List.set_cons_zero, List.set_cons_succ, List.getElem_toArray, List.getElem_cons_zero, List.getElem_cons_succ]
          refine wpAnyH_take (i := 4) (v := (.int .i64 n)) rfl (by kernel_rfl) (by kernel_rfl) (by kernel_rfl) (fun _ _ _ h => h) (Or.inl ⟨by rfl, ?_⟩) (by assumption) ?_
          · (intro w hSw; (try dsimp only at hSw); go_split_ands; go_simp)
          simp only [Act.put, List.setIfInBounds_toArray, List.set_cons_zero, List.set_cons_succ, List.getElem_toArray, List.getElem_cons_zero, List.getElem_cons_succ]
          refine wpAnyH_ready (rs := [5]) (by kernel_rfl) (by simp) ?_
          refine AllReadyH.cons rfl (fun K hK => ?_) AllReadyH.nil
          go_simp
          refine (qs _).mono ?_
          rintro e5 w5 ⟨rfl, bb5⟩
          refine hK.out _ _ ?_ (fun hHeld5 => ?_)
          · obtain ⟨s1, s2, s3, s4, s5, s6, s7, s8⟩ := hHeld
            exact ⟨Ver.keepCell s1 bb5, Ver.keepCell s2 bb5, Ver.keepCell s3 bb5, Ver.keepCell s4 bb5, Ver.keepCell s5 bb5, Ver.keepCell s6 bb5, Ver.keepCell s7 bb5, Ver.keepCell s8 bb5⟩
          clear hK K hHeld
          try simp only [Act.put, List.setIfInBounds_toArray, List.set_cons_zero, List.set_cons_succ]
          refine wpAnyH_take (i := 6) (v := (.bool true)) rfl (by kernel_rfl) (by kernel_rfl) (by kernel_rfl) (fun _ _ _ h => h) (Or.inl ⟨by rfl, ?_⟩) (by assumption) ?_
          · (intro w hSw; (try dsimp only at hSw); go_split_ands; go_simp)
          simp only [Act.put, List.setIfInBounds_toArray, List.set_cons_zero, List.set_cons_succ, List.getElem_toArray, List.getElem_cons_zero, List.getElem_cons_succ]
          refine wpAnyH_take (i := 7) (v := (.bool true)) rfl (by kernel_rfl) (by kernel_rfl) (by kernel_rfl) (fun _ _ _ h => h) (Or.inl ⟨by rfl, ?_⟩) (by assumption) ?_
          · (intro w hSw; (try dsimp only at hSw); go_split_ands; go_simp)
          simp only [Act.put, List.setIfInBounds_toArray, List.set_cons_zero, List.set_cons_succ, List.getElem_toArray, List.getElem_cons_zero, List.getElem_cons_succ]
          refine wpAnyH_take (i := 8) (v := (.bool true)) rfl (by kernel_rfl) (by kernel_rfl) (by kernel_rfl) (fun _ _ _ h => h) (Or.inl ⟨by rfl, ?_⟩) (by assumption) ?_
          · (intro w hSw; (try dsimp only at hSw); go_split_ands; go_simp)
          simp only [Act.put, List.setIfInBounds_toArray, List.set_cons_zero, List.set_cons_succ, List.getElem_toArray, List.getElem_cons_zero, List.getElem_cons_succ]
          refine wpAnyH_take (i := 9) (v := (.agg #[.int .i64 x2, .int .i64 y2, .int .i64 z2, .string u2])) rfl (by kernel_rfl) (by kernel_rfl) (by kernel_rfl) (fun _ _ _ h => h) (Or.inl ⟨by rfl, ?_⟩) (by assumption) ?_
          · (intro w hSw; (try dsimp only at hSw); go_split_ands; go_simp)
          simp only [Act.put, List.setIfInBounds_toArray, List.set_cons_zero, List.set_cons_succ, List.getElem_toArray, List.getElem_cons_zero, List.getElem_cons_succ]
          refine wpAnyH_take (i := 10) (v := (.agg #[.int .i64 a, .int .i64 b, .int .i64 c, .string p])) rfl (by kernel_rfl) (by kernel_rfl) (by kernel_rfl) (fun _ _ _ h => h) (Or.inl ⟨by rfl, ?_⟩) (by assumption) ?_
          · (intro w hSw; (try dsimp only at hSw); go_split_ands; go_simp)
          simp only [Act.put, List.setIfInBounds_toArray, List.set_cons_zero, List.set_cons_succ, List.getElem_toArray, List.getElem_cons_zero, List.getElem_cons_succ]
          refine wpAnyH_take (i := 11) (v := (.bool true)) rfl (by kernel_rfl) (by kernel_rfl) (by kernel_rfl) (fun _ _ _ h => h) (Or.inl ⟨by rfl, ?_⟩) (by assumption) ?_
          · (intro w hSw; (try dsimp only at hSw); go_split_ands; go_simp)
          simp only [Act.put, List.setIfInBounds_toArray, List.set_cons_zero, List.set_cons_succ, List.getElem_toArray, List.getElem_cons_zero, List.getElem_cons_succ]
          refine wpAnyH_take (i := 12) (v := (.bool true)) rfl (by kernel_rfl) (by kernel_rfl) (by kernel_rfl) (fun _ _ _ h => h) (Or.inl ⟨by rfl, ?_⟩) (by assumption) ?_
          · (intro w hSw; (try dsimp only at hSw); go_split_ands; go_simp)
          simp only [Act.put, List.setIfInBounds_toArray, List.set_cons_zero, List.set_cons_succ, List.getElem_toArray, List.getElem_cons_zero, List.getElem_cons_succ]
          refine wpAnyH_take (i := 13) (v := undef) rfl (by kernel_rfl) (by kernel_rfl) (by kernel_rfl) (fun _ _ _ h => h) (Or.inr ⟨by rfl, rfl⟩) (by assumption) ?_
          simp only [Act.put, List.setIfInBounds_toArray, List.set_cons_zero, List.set_cons_succ, List.getElem_toArray, List.getElem_cons_zero, List.getElem_cons_succ]
          refine wpAnyH_take (i := 14) (v := undef) rfl (by kernel_rfl) (by kernel_rfl) (by kernel_rfl) (fun _ _ _ h => h) (Or.inr ⟨by rfl, rfl⟩) (by assumption) ?_
          simp only [Act.put, List.setIfInBounds_toArray, List.set_cons_zero, List.set_cons_succ, List.getElem_toArray, List.getElem_cons_zero, List.getElem_cons_succ]
          refine wpAnyH_take (i := 15) (v := undef) rfl (by kernel_rfl) (by kernel_rfl) (by kernel_rfl) (fun _ _ _ h => h) (Or.inr ⟨by rfl, rfl⟩) (by assumption) ?_
          simp only [Act.put, List.setIfInBounds_toArray, List.set_cons_zero, List.set_cons_succ, List.getElem_toArray, List.getElem_cons_zero, List.getElem_cons_succ]
          refine wpAnyH_take (i := 16) (v := undef) rfl (by kernel_rfl) (by kernel_rfl) (by kernel_rfl) (fun _ _ _ h => h) (Or.inr ⟨by rfl, rfl⟩) (by assumption) ?_
          simp only [Act.put, List.setIfInBounds_toArray, List.set_cons_zero, List.set_cons_succ, List.getElem_toArray, List.getElem_cons_zero, List.getElem_cons_succ]
          refine wpAnyH_take (i := 17) (v := undef) rfl (by kernel_rfl) (by kernel_rfl) (by kernel_rfl) (fun _ _ _ h => h) (Or.inr ⟨by rfl, rfl⟩) (by assumption) ?_
          simp only [Act.put, List.setIfInBounds_toArray, List.set_cons_zero, List.set_cons_succ, List.getElem_toArray, List.getElem_cons_zero, List.getElem_cons_succ]
          refine wpAnyH_take (i := 18) (v := undef) rfl (by kernel_rfl) (by kernel_rfl) (by kernel_rfl) (fun _ _ _ h => h) (Or.inr ⟨by rfl, rfl⟩) (by assumption) ?_
          simp only [Act.put, List.setIfInBounds_toArray, List.set_cons_zero, List.set_cons_succ, List.getElem_toArray, List.getElem_cons_zero, List.getElem_cons_succ]
          refine wpAnyH_take (i := 19) (v := undef) rfl (by kernel_rfl) (by kernel_rfl) (by kernel_rfl) (fun _ _ _ h => h) (Or.inr ⟨by rfl, rfl⟩) (by assumption) ?_
          simp only [Act.put, List.setIfInBounds_toArray, List.set_cons_zero, List.set_cons_succ, List.getElem_toArray, List.getElem_cons_zero, List.getElem_cons_succ]
          refine wpAnyH_take (i := 20) (v := undef) rfl (by kernel_rfl) (by kernel_rfl) (by kernel_rfl) (fun _ _ _ h => h) (Or.inr ⟨by rfl, rfl⟩) (by assumption) ?_
          simp only [Act.put, List.setIfInBounds_toArray, List.set_cons_zero, List.set_cons_succ, List.getElem_toArray, List.getElem_cons_zero, List.getElem_cons_succ]
          refine wpAnyH_take (i := 21) (v := undef) rfl (by kernel_rfl) (by kernel_rfl) (by kernel_rfl) (fun _ _ _ h => h) (Or.inr ⟨by rfl, rfl⟩) (by assumption) ?_
          simp only [Act.put, List.setIfInBounds_toArray, List.set_cons_zero, List.set_cons_succ, List.getElem_toArray, List.getElem_cons_zero, List.getElem_cons_succ]
          refine wpAnyH_take (i := 22) (v := undef) rfl (by kernel_rfl) (by kernel_rfl) (by kernel_rfl) (fun _ _ _ h => h) (Or.inr ⟨by rfl, rfl⟩) (by assumption) ?_
          simp only [Act.put, List.setIfInBounds_toArray, List.set_cons_zero, List.set_cons_succ, List.getElem_toArray, List.getElem_cons_zero, List.getElem_cons_succ]
          refine wpAnyH_take (i := 23) (v := undef) rfl (by kernel_rfl) (by kernel_rfl) (by kernel_rfl) (fun _ _ _ h => h) (Or.inr ⟨by rfl, rfl⟩) (by assumption) ?_
          simp only [Act.put, List.setIfInBounds_toArray, List.set_cons_zero, List.set_cons_succ, List.getElem_toArray, List.getElem_cons_zero, List.getElem_cons_succ]
          refine wpAnyH_take (i := 24) (v := undef) rfl (by kernel_rfl) (by kernel_rfl) (by kernel_rfl) (fun _ _ _ h => h) (Or.inr ⟨by rfl, rfl⟩) (by assumption) ?_
          simp only [Act.put, List.setIfInBounds_toArray, List.set_cons_zero, List.set_cons_succ, List.getElem_toArray, List.getElem_cons_zero, List.getElem_cons_succ]
          refine wpAnyH_take (i := 25) (v := (.bool true)) rfl (by kernel_rfl) (by kernel_rfl) (by kernel_rfl) (fun _ _ _ h => h) (Or.inl ⟨by rfl, ?_⟩) (by assumption) ?_
          · (intro w hSw; (try dsimp only at hSw); go_split_ands; go_simp)
          simp only [Act.put, List.setIfInBounds_toArray, List.set_cons_zero, List.set_cons_succ, List.getElem_toArray, List.getElem_cons_zero, List.getElem_cons_succ]
          refine wpAnyH_take (i := 26) (v := (.bool true)) rfl (by kernel_rfl) (by kernel_rfl) (by kernel_rfl) (fun _ _ _ h => h) (Or.inl ⟨by rfl, ?_⟩) (by assumption) ?_
          · (intro w hSw; (try dsimp only at hSw); go_split_ands; go_simp)
          simp only [Act.put, List.setIfInBounds_toArray, List.set_cons_zero, List.set_cons_succ, List.getElem_toArray, List.getElem_cons_zero, List.getElem_cons_succ]
          refine wpAnyH_take (i := 27) (v := (.bool true)) rfl (by kernel_rfl) (by kernel_rfl) (by kernel_rfl) (fun _ _ _ h => h) (Or.inl ⟨by rfl, ?_⟩) (by assumption) ?_
          · (intro w hSw; (try dsimp only at hSw); go_split_ands; go_simp)
          simp only [Act.put, List.setIfInBounds_toArray, List.set_cons_zero, List.set_cons_succ, List.getElem_toArray, List.getElem_cons_zero, List.getElem_cons_succ]
          refine wpAnyH_done (by kernel_rfl) ?_ _
          have C5 : Below w.heap.size w w5 := (Below.drew B8').trans (bb5.mono B8'.size)
          clear k0a k0b k0c k0d k1a k1b k1c k1d bb5 B8' hHeld5
          go_wp2_with fail
          go_ret
          exact ⟨rfl, C5⟩

set_option maxRecDepth 100000 in
theorem lifted (os : Os) (started : os.Started) (H : Type) (enc : TypeId × Value → H) :
    ReturnsInHanded {} Try.checked os 4 .any (Rows.fnLatestSpec.pre6 enc Try.prog Try.f4 Rows.fnLatestRow.domain false) (Rows.fnLatestSpec.post enc Try.prog Try.f4 false true false false) := by
  refine returnsInHanded_of_change (C := Try.checked) own started (by kernel_rfl) Try.func4
    (ChangeSpec.witness6 (enc := enc) (C := Try.checked) false ⟨#[], #[.slice none 0 0], []⟩ 8 (by kernel_rfl) (by kernel_rfl) (by kernel_rfl) (by kernel_rfl)) ?_
  intro W base args ds gs before hval0 hW hcnd _
  have hval : ∀ (j : Nat) t v, Try.f4.params[j]? = some t → args[j]? = some v → Value.okWide Try.prog W .any base t v := hval0
  have hW' := hW
  obtain ⟨p, q, hA0, hV, rfl, hfz, hnd⟩ := hW
  have hA : DataW.TrodAll enc Try.prog W 0 (fun _ => true) true Try.f4.params.toList args.toList ds p := hA0
  rw [Try.params4] at hA hval
  obtain ⟨v0, vs0, d0, ds0, p0, q0, hargs, rfl, rfl, h0, r0⟩ := trodAll_cons hA
  obtain ⟨rfl, rfl, rfl⟩ := trodAll_nil r0
  obtain rfl : args = #[v0] := by cases args; simp_all
  obtain ⟨rfl, rfl⟩ := trodVars_none hV
  obtain ⟨a0, len0, cap0, rfl⟩ := okWide_slice Try.underlying22 (hval 0 22 v0 rfl rfl)
  have k0 := h0
  have lt0 : ∀ x ∈ p0, x.block < W.heap.size := by obtain ⟨m, hm⟩ := k0; exact DataW.trod_lt m _ _ _ hm
  obtain ⟨xs0, t0, y0, m0⟩ : ∃ xs, Mem.Sl W (.slice a0 len0 cap0) (Mem.bs xs) ∧ Mem.Byt xs ∧ xs.length ≤ maxLen := by
    obtain ⟨fuel, hf⟩ := h0
    rcases open_ints Try.underlying22 Try.underlying5 (by kernel_rfl) hf with ⟨hcs, _⟩ | ⟨x, l, c, zs, hcs, _, hl, hm, hz, _, hcell, hwz⟩
    · simp [Value.cells] at hcs
      obtain ⟨rfl, rfl, rfl⟩ := hcs
      obtain ⟨xs, hs, _, hy⟩ := RowSl.row_sl (w := W) (a := none) (len := 0) (cap := 0) (zs := []) (.inl ⟨rfl, rfl, rfl, rfl⟩)
      exact ⟨xs, hs, hy, by have h0 : xs.length = 0 := (by omega); rw [h0]; exact Nat.zero_le _⟩
    · simp [Value.cells] at hcs
      obtain ⟨rfl, rfl, rfl⟩ := hcs
      obtain ⟨xs, hs, he, hy⟩ := RowSl.row_sl (w := W) (.inr ⟨_, rfl, hl, hm, by simpa using hz, hcell, hwz⟩)
      exact ⟨xs, hs, hy, by rw [← he]; exact Nat.le_trans hl hm⟩
  clear hA0 hval0
  refine (walk W _ xs0 t0 y0 m0).mono fun e W' ⟨he, bel⟩ => ?_
  subst he
  exact ⟨_, rfl, _, _, _, [], _, [], hW', trodAll_mk1 (shut_bool Try.underlying4 _), (trodAll_cons_mk (Below.trod laidOut (by kernel_rfl) (of_decide_eq_true (by kernel_rfl)) k0 bel lt0) trodAll_mk0), rfl, bel.frame _, fun h => by cases h⟩

theorem over : Rows.fnLatestRow.holds Try.pinned (OpenSpec.ofChange Rows.fnLatestSpec) :=
  OpenClaim.holds_of_wide 4 Try.f4 rfl rfl rfl rfl rfl rfl rfl ⟨rfl, rfl, rfl, rfl, rfl⟩ rfl rfl rfl rfl rfl (by kernel_rfl) Try.func4 (by kernel_rfl)
    (of_decide_eq_true (by kernel_rfl)) (by unfold Func.isWrapper; first | (rw [if_pos (by decide +kernel)]; kernel_rfl) | (rw [if_neg (by decide +kernel)]; exact ⟨rfl, rfl⟩))
    (fun os started H enc _ => lifted os started H enc)

end Go.Proofs.Ytbpgdagmffbagab.fnLatest
namespace Go.Proofs.Ytbpgdagmffbagab
theorem fnLatest_holds : Rows.FnLatestSaid := fnLatest.over
end Go.Proofs.Ytbpgdagmffbagab
