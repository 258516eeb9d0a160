/- Texts in one: Ver9. -/
import Derived.Test.YtbopliahafkecaaGreatDoorPk10
import Derived.Laws.ResultCell
/- Chapter 3, the specification's side: a version that is read of a text. -/
namespace Go.Proofs.YtbopliahafkecaaGreatDoor.Ver
set_option linter.unusedVariables false
set_option linter.unusedSimpArgs false
open Go.RowKit Go.Proofs.YtbopliahafkecaaGreatDoor.Mem Go.Proofs.YtbopliahafkecaaGreatDoor.Laws Go.Proofs.YtbopliahafkecaaGreatDoor.Bytes Go.Proofs.YtbopliahafkecaaGreatDoor.Sha

theorem results_row_tmp {P : Program} {fn : Func} {p u : Tmp} {ty : TypeId} (h : fn.results = #[.cell p ty, .tmp u]) (tmps : Array Value) (w : World) (g : Nat) (t : TypeId) (cs : Array Value) (fr : Nat × Nat) (d : TypeDesc)
    (hp : tmps.getD p undef = .pointer (some ⟨g, 0, none⟩)) (hg : w.heap[g]? = some (.cells cs t fr))
    (hu : P.underlying ty = some d) (hd : (match d with | .struct _ | .array _ _ => true | _ => false) = true) (hi : (P.info? ty).map (·.size) = some cs.size) :
    (results fn tmps).run P w = .ok (.tuple #[.agg cs, tmps.getD u undef]) w := by
  have hp' : tmps[p]?.getD undef = .pointer (some ⟨g, 0, none⟩) := by simpa using hp
  simp [results, h, hp', asAddr, run_loadVar_row w g t ty cs fr d hg hu hd hi]

theorem Vr.frozen {w : World} {g : Nat} {a b c : Int} {p : ByteArray} (h : Vr w g a b c p) (i : Nat) : w.frozen? ⟨g, i, none⟩ = false := by
  have h' : w.heap[g]? = some (.cells (vc a b c p) 45 (0, 0)) := h
  simp [World.frozen?, h']
/-- three numbers stored one by one -/
def put3 (w : World) (g : Nat) (a b c : Int) : World := ((w.setCell ⟨g, 0, none⟩ (.int .i64 a)).setCell ⟨g, 1, none⟩ (.int .i64 b)).setCell ⟨g, 2, none⟩ (.int .i64 c)
theorem Vr.cellSet {w : World} {g : Nat} {cs : Array Value} (h : w.heap[g]? = some (.cells cs 45 (0, 0))) (i : Nat) (v : Value) : (w.setCell ⟨g, i, none⟩ v).heap[g]? = some (.cells (cs.setIfInBounds i v) 45 (0, 0)) := by
  simp [World.setCell, Array.getElem?_modify, h]
theorem put3_row {w : World} {g : Nat} {a b c : Int} {p : ByteArray} (h : Vr w g a b c p) (a' b' c' : Int) : Vr (put3 w g a' b' c') g a' b' c' p := Vr.cellSet (Vr.cellSet (Vr.cellSet h 0 _) 1 _) 2 _
theorem put3_other {w : World} {g g' : Nat} {a b c : Int} {p : ByteArray} (h : Vr w g a b c p) (hg : g ≠ g') (a' b' c' : Int) : Vr (put3 w g' a' b' c') g a b c p := by
  unfold Vr put3
  rw [Below.heap_setCell _ _ _ _ (by exact hg), Below.heap_setCell _ _ _ _ (by exact hg), Below.heap_setCell _ _ _ _ (by exact hg)]
  exact h
theorem put3_below {B : Nat} {w0 w : World} {g : Nat} (hb : Below B w0 w) (hg : B ≤ g) (a b c : Int) : Below B w0 (put3 w g a b c) :=
  ((hb.setCell (p := ⟨g, 0, none⟩) hg _).setCell (p := ⟨g, 1, none⟩) hg _).setCell (p := ⟨g, 2, none⟩) hg _

theorem thirdV (w : World) (A B C : Obj) : (((w.alloc A).alloc B).alloc C).heap[w.heap.size + 1 + 1]? = some C := by
  have h := heap_alloc_new ((w.alloc A).alloc B) C
  have e : ((w.alloc A).alloc B).heap.size = w.heap.size + 1 + 1 := by
    show ((w.heap.push A).push B).size = _
    simp
  rw [e] at h
  exact h

/-- a text's numbers, and what stands behind the first sign - -/
def cut (t : ByteArray) : ByteArray × ByteArray := match (sb t).findIdx? (fun c => c == 45) with
  | some i => (t.extract 0 i, t.extract (i + 1) t.size)
  | none => (t, ⟨#[]⟩)
def parse3 (s u pr : ByteArray) : (Int × Int × Int × ByteArray) × Bool := match splitT 46 u with
  | [x, y, z] => if okV (number (sb x)) (number (sb y)) (number (sb z)) pr = true ∧ eqT (Plain.txt (verText (number (sb x)) (number (sb y)) (number (sb z)) pr)) s = true then ((number (sb x), number (sb y), number (sb z), pr), true) else ((0, 0, 0, ⟨#[]⟩), false)
  | _ => ((0, 0, 0, ⟨#[]⟩), false)
def parseV (s : ByteArray) : (Int × Int × Int × ByteArray) × Bool :=
  if (sb s).head? = some 118 then parse3 s (cut (s.extract 1 s.size)).1 (cut (s.extract 1 s.size)).2 else ((0, 0, 0, ⟨#[]⟩), false)

theorem cut_some {t : ByteArray} {i : Nat} (h1 : (sb t)[i]? = some 45) (h2 : ∀ j, j < i → (sb t)[j]? ≠ some 45) : cut t = (t.extract 0 i, t.extract (i + 1) t.size) := by
  have : (sb t).findIdx? (fun c => c == 45) = some i := by
    rw [List.findIdx?_eq_some_iff_getElem]
    obtain ⟨hi, he⟩ := List.getElem?_eq_some_iff.1 h1
    refine ⟨hi, by simp [he], fun j hj => ?_⟩
    have := h2 j hj
    rw [List.getElem?_eq_getElem (by omega)] at this
    simpa using this
  unfold cut
  rw [this]
theorem cut_none {t : ByteArray} (h2 : ∀ j, j < t.size → (sb t)[j]? ≠ some 45) : cut t = (t, ⟨#[]⟩) := by
  have : (sb t).findIdx? (fun c => c == 45) = none := by
    rw [List.findIdx?_eq_none_iff]
    intro x hx
    obtain ⟨j, hj, rfl⟩ := List.getElem_of_mem hx
    have := h2 j (by rw [sb_len] at hj; exact hj)
    rw [List.getElem?_eq_getElem hj] at this
    simpa using this
  unfold cut
  rw [this]

set_option maxRecDepth 1000000 in
set_option maxHeartbeats 4000000 in
theorem parse_spec (w : World) (s : ByteArray) (hs : s.size ≤ 1000000000000) :
    Calls Tryz.prog 73 #[.string s] w fun e w' => e = .returned (.tuple #[verQ (parseV s).1, .bool (parseV s).2]) ∧ Below w.heap.size w w' := by
  by_cases hv : (sb s).head? = some 118
  · have h0 : 0 < s.size := by
      rcases Nat.eq_zero_or_pos s.size with h | h
      · have : sb s = [] := List.eq_nil_of_length_eq_zero (by rw [sb_len]; exact h)
        rw [this] at hv
        cases hv
      · exact h
    have he : s.toList.isEmpty = false := by rw [toList_empty]; exact decide_eq_false (by omega)
    have hc : (s[0].toNat : Int) = 118 := by
      have hg := sb_get s 0 h0
      rw [← List.head?_eq_getElem?, hv] at hg
      simpa using hg.symm
    have d1 : ((s[0].toNat : Int) != 118) = false := by simpa using hc
    have HV0 : Hid (parseV s = parse3 s (cut (s.extract 1 s.size)).1 (cut (s.extract 1 s.size)).2) := by show _ = _; unfold parseV; rw [if_pos hv]
    have ht1 : (s.extract 1 s.size).size = s.size - 1 := by simp
    obtain ⟨t, ht⟩ : ∃ t, s.extract 1 s.size = t := ⟨_, rfl⟩
    rw [ht] at HV0 ht1
    have HTs : Hid (t.size = s.size - 1) := ht1
    have hts : t.size ≤ s.size := by omega
    have HR : Hid (Vr (((w.alloc (.cells #[.int .i64 0, .int .i64 0, .int .i64 0, .string ⟨#[]⟩] 45)).alloc (.cells #[.int .i64 0, .int .i64 0, .int .i64 0, .string ⟨#[]⟩] 45)).alloc (.cells #[.int .i64 0, .int .i64 0, .int .i64 0, .string ⟨#[]⟩] 45)) w.heap.size 0 0 0 ⟨#[]⟩ ∧ Vr (((w.alloc (.cells #[.int .i64 0, .int .i64 0, .int .i64 0, .string ⟨#[]⟩] 45)).alloc (.cells #[.int .i64 0, .int .i64 0, .int .i64 0, .string ⟨#[]⟩] 45)).alloc (.cells #[.int .i64 0, .int .i64 0, .int .i64 0, .string ⟨#[]⟩] 45)) (w.heap.size + 1) 0 0 0 ⟨#[]⟩ ∧ Vr (((w.alloc (.cells #[.int .i64 0, .int .i64 0, .int .i64 0, .string ⟨#[]⟩] 45)).alloc (.cells #[.int .i64 0, .int .i64 0, .int .i64 0, .string ⟨#[]⟩] 45)).alloc (.cells #[.int .i64 0, .int .i64 0, .int .i64 0, .string ⟨#[]⟩] 45)) (w.heap.size + 1 + 1) 0 0 0 ⟨#[]⟩) :=
      ⟨Vr.same (Vr.same (w := w.alloc (.cells (vc 0 0 0 ⟨#[]⟩) 45)) (heap_alloc_new w _) ((Below.refl _ _).alloc (Nat.le_refl _) _)) ((Below.refl _ _).alloc (Nat.le_refl _) _), Vr.same (w := (w.alloc (.cells (vc 0 0 0 ⟨#[]⟩) 45)).alloc (.cells (vc 0 0 0 ⟨#[]⟩) 45)) (heap_alloc2_new w _ _) ((Below.refl _ _).alloc (Nat.le_refl _) _), thirdV w _ _ _⟩
    have HB : Hid (Below w.heap.size w (((w.alloc (.cells #[.int .i64 0, .int .i64 0, .int .i64 0, .string ⟨#[]⟩] 45)).alloc (.cells #[.int .i64 0, .int .i64 0, .int .i64 0, .string ⟨#[]⟩] 45)).alloc (.cells #[.int .i64 0, .int .i64 0, .int .i64 0, .string ⟨#[]⟩] 45))) := (((Below.refl _ _).alloc (Nat.le_refl _) _).alloc (by simp) _).alloc (by simp; omega) _
    clear hv hc ht1
    go_enter Tryz.func73, Tryz.ntmps73
    go_wp2
    generalize (((w.alloc (.cells #[.int .i64 0, .int .i64 0, .int .i64 0, .string ⟨#[]⟩] 45)).alloc (.cells #[.int .i64 0, .int .i64 0, .int .i64 0, .string ⟨#[]⟩] 45)).alloc (.cells #[.int .i64 0, .int .i64 0, .int .i64 0, .string ⟨#[]⟩] 45)) = w3 at HR HB ⊢
    clear he d1 ht
    go_loopw [5, 7] (fun x i wr => ∃ k : Nat, k ≤ t.size ∧ x = .string t ∧ i = .int .i64 (k : Int) ∧ Hid (∀ j, j < k → (sb t)[j]? ≠ some 45) ∧ w3 = wr) (fun _ i _ => t.size - (intOf i).toNat)
    case atStart => exact ⟨0, Nat.zero_le _, rfl, rfl, fun j hj => (by omega), by first | rfl | trivial⟩
    case round =>
      obtain ⟨k, hk, rfl, rfl, HA, rfl⟩ := hrel
      by_cases hlt : k < t.size
      · have hg := sb_get t k hlt
        have HG : Hid ((sb t)[k]? = some (t[k].toNat : Int)) := hg
        clear hg
        by_cases hm : (t[k].toNat : Int) = 45
        · have d1 : ((t[k].toNat : Int) == 45) = true := by simpa using hm
          have HC : Hid (cut t = (t.extract 0 k, t.extract (k + 1) t.size)) := cut_some (by rw [HG.out, hm]) HA.out
          obtain ⟨u, hu⟩ : ∃ u, t.extract 0 k = u := ⟨_, rfl⟩
          obtain ⟨pr, hpr'⟩ : ∃ u, t.extract (k + 1) t.size = u := ⟨_, rfl⟩
          rw [hu, hpr'] at HC
          have HV : Hid (parseV s = parse3 s u pr) := by show _ = _; rw [HV0.out, HC.out]
          have hul : u.size ≤ s.size := by rw [← hu]; simp; omega
          have hpr : pr.size ≤ 1000000000000 := by rw [← hpr']; simp; omega
          obtain ⟨m0, m1, m2, m3⟩ := Vr.cells HR.out.2.2
          have mf := Vr.frozen HR.out.2.2 3
          clear HC HV0 HA HG hm
          go_wp2_with fail
          obtain ⟨W, hW⟩ : ∃ W, W = w3.setCell ⟨w.heap.size + 1 + 1, 3, none⟩ (.string pr) := ⟨_, rfl⟩
          have v0 : Vr W w.heap.size 0 0 0 ⟨#[]⟩ := by rw [hW]; unfold Vr; rw [Below.heap_setCell _ _ _ _ (by show _ ≠ _; simp; omega)]; exact HR.out.1
          have v1 : Vr W (w.heap.size + 1) 0 0 0 ⟨#[]⟩ := by rw [hW]; unfold Vr; rw [Below.heap_setCell _ _ _ _ (by show _ ≠ _; simp)]; exact HR.out.2.1
          have v2 : Vr W (w.heap.size + 1 + 1) 0 0 0 pr := by rw [hW]; exact Vr.cellSet HR.out.2.2 3 _
          have hbW : Below w.heap.size w W := by rw [hW]; exact HB.out.setCell (p := ⟨w.heap.size + 1 + 1, 3, none⟩) (by show w.heap.size ≤ w.heap.size + 1 + 1; omega) _
          rw [← hW]
          clear hW m0 m1 m2 m3 mf HR HB hu hpr' HTs d1
          refine (split_spec W u 46 (by omega) (by omega) (by omega)).mono ?_
          rintro e w5 ⟨v5, rfl, o5, b5⟩
          have s0 := Vr.same v0 b5
          have s1 := Vr.same v1 b5
          have s2 := Vr.same v2 b5
          have hb5 : Below w.heap.size w w5 := hbW.trans (b5.mono hbW.size)
          have hs5 := hb5.size
          have lW := Vr.lt v2
          have hT0 := splitT_pos 46 u
          have hTs := splitT_size 46 u
          have hTl := splitT_len 46 u
          have HT : Hid (splitT 46 u = splitT 46 u) := rfl
          obtain ⟨T, hT⟩ : ∃ T, splitT 46 u = T := ⟨_, rfl⟩
          rw [hT] at o5 hT0 hTs hTl
          have HT : Hid (splitT 46 u = T) := hT
          obtain ⟨g, cap, rfl, hg1, hg2, hcap, hc⟩ := ownForm o5 (by rw [ss_len]; exact hT0)
          rw [ss_len] at hcap hc
          rw [ss_len]
          clear hT o5 v0 v1 v2 b5
          by_cases hlen : T.length = 3
          · obtain ⟨x, y, z, rfl⟩ : ∃ x y z, T = [x, y, z] := by
              match T, hlen with
              | [x, y, z], _ => exact ⟨x, y, z, rfl⟩
            have c0 : w5.cell? ⟨g, 0, none⟩ = some (.string x) := hc 0 (by simp)
            have c1 : w5.cell? ⟨g, 1, none⟩ = some (.string y) := hc 1 (by simp)
            have c2 : w5.cell? ⟨g, 2, none⟩ = some (.string z) := hc 2 (by simp)
            have hx := hTs x (by simp)
            have hy := hTs y (by simp)
            have hz := hTs z (by simp)
            have n0 : ∀ W, _ := fun W => number_spec W x (by omega)
            have n1 : ∀ W, _ := fun W => number_spec W y (by omega)
            have n2 : ∀ W, _ := fun W => number_spec W z (by omega)
            obtain ⟨nx, hnx⟩ : ∃ n, number (sb x) = n := ⟨_, rfl⟩
            obtain ⟨ny, hny⟩ : ∃ n, number (sb y) = n := ⟨_, rfl⟩
            obtain ⟨nz, hnz⟩ : ∃ n, number (sb z) = n := ⟨_, rfl⟩
            rw [hnx] at n0
            rw [hny] at n1
            rw [hnz] at n2
            obtain ⟨k0, k1, k2, k3⟩ := Vr.cells s2
            have f0 := Vr.frozen s2 0
            have f1 := Vr.frozen s2 1
            have f2 := Vr.frozen s2 2
            have hne : ¬ g = w.heap.size + 1 + 1 := by omega
            have hne2 : ¬ w.heap.size + 1 + 1 = g := by omega
            have HQ : Hid (parse3 s u pr = if okV nx ny nz pr = true ∧ eqT (Plain.txt (verText nx ny nz pr)) s = true then ((nx, ny, nz, pr), true) else ((0, 0, 0, ⟨#[]⟩), false)) := by
              show _ = _
              unfold parse3
              rw [HT.out]
              simp only [hnx, hny, hnz]
            have HS0 : Hid (Vr w5 w.heap.size 0 0 0 ⟨#[]⟩ ∧ Vr w5 (w.heap.size + 1) 0 0 0 ⟨#[]⟩ ∧ Vr w5 (w.heap.size + 1 + 1) 0 0 0 pr) := ⟨s0, s1, s2⟩
            clear hnx hny hnz hc hTs hTl hT0 HT s0 s1 s2
            go_wp2_with fail
            refine (n0 _).mono ?_
            rintro e w' ⟨rfl, rfl⟩
            go_wp2_with fail
            refine (n1 _).mono ?_
            rintro e w' ⟨rfl, rfl⟩
            go_wp2_with fail
            refine (n2 _).mono ?_
            rintro e w' ⟨rfl, rfl⟩
            go_wp2_with fail
            obtain ⟨ok, hok⟩ : ∃ o, okV nx ny nz pr = o := ⟨_, rfl⟩
            have qk := ok_spec (put3 w5 (w.heap.size + 1 + 1) nx ny nz) nx ny nz pr hpr
            rw [hok] at HQ qk
            unfold put3 ver at qk
            refine qk.mono ?_
            rintro e w7 ⟨rfl, b7⟩
            have s0 : Vr w7 w.heap.size 0 0 0 ⟨#[]⟩ := Vr.same (put3_other HS0.out.1 (by omega) nx ny nz) b7
            have s1 : Vr w7 (w.heap.size + 1) 0 0 0 ⟨#[]⟩ := Vr.same (put3_other HS0.out.2.1 (by omega) nx ny nz) b7
            have s2 : Vr w7 (w.heap.size + 1 + 1) nx ny nz pr := Vr.same (put3_row HS0.out.2.2 nx ny nz) b7
            have hb7 : Below w.heap.size w w7 := (put3_below hb5 (by omega) nx ny nz).trans (Below.mono b7 (put3_below hb5 (show w.heap.size ≤ w.heap.size + 1 + 1 by omega) nx ny nz).size)
            clear qk n0 n1 n2 c0 c1 c2 k0 k1 k2 k3 f0 f1 f2 HS0 b7 hok
            cases ok
            · have HF : Hid (parseV s = ((0, 0, 0, ⟨#[]⟩), false)) := by show _ = _; rw [HV.out, HQ.out]; rfl
              clear HQ HV
              go_wp2_with (first | (refine wpList_load_row rfl 45 _ rfl (w.heap.size + 1) rfl 45 (vc 0 0 0 ⟨#[]⟩) (0, 0) _ s1 Tryz.underlying45 rfl (sizeV 0 0 0 ⟨#[]⟩) ?_) | (refine wpList_store_row rfl 45 _ _ rfl w.heap.size (vc 0 0 0 ⟨#[]⟩) rfl rfl 45 (vc 0 0 0 ⟨#[]⟩) s0 (sizeV 0 0 0 ⟨#[]⟩) rfl (oneV 0 0 0 ⟨#[]⟩) ?_))
              refine bodyPost_ret (results_row_tmp rfl _ _ w.heap.size 45 (vc 0 0 0 ⟨#[]⟩) (0, 0) _ rfl (Vr.row s0 0 0 0 ⟨#[]⟩) Tryz.underlying45 rfl (sizeV 0 0 0 ⟨#[]⟩)) rfl ⟨?_, below_setRow hb7 (by omega) _⟩
              rw [HF.out]
              rfl
            · obtain ⟨k0, k1, k2, k3⟩ := Vr.cells s2
              have qt := vtext_spec w7 nx ny nz pr hpr
              unfold ver at qt
              obtain ⟨txt, htxt⟩ : ∃ o, Plain.txt (verText nx ny nz pr) = o := ⟨_, rfl⟩
              rw [htxt] at HQ qt
              go_wp2_with fail
              refine qt.mono ?_
              rintro e w8 ⟨rfl, b8⟩
              replace s0 := Vr.same s0 b8
              replace s1 := Vr.same s1 b8
              replace s2 := Vr.same s2 b8
              have hb8 : Below w.heap.size w w8 := hb7.trans (b8.mono hb7.size)
              clear qt k0 k1 k2 k3 htxt b8
              by_cases he : eqT txt s = true
              · have he' : (txt.toList == s.toList) = true := he
                have HF : Hid (parseV s = ((nx, ny, nz, pr), true)) := by show _ = _; rw [HV.out, HQ.out, if_pos ⟨by first | rfl | trivial, he⟩]
                clear HQ HV he
                go_wp2_with (first | (refine wpList_load_row rfl 45 _ rfl (w.heap.size + 1 + 1) rfl 45 (vc nx ny nz pr) (0, 0) _ s2 Tryz.underlying45 rfl (sizeV nx ny nz pr) ?_) | (refine wpList_store_row rfl 45 _ _ rfl w.heap.size (vc nx ny nz pr) rfl rfl 45 (vc 0 0 0 ⟨#[]⟩) s0 (sizeV nx ny nz pr) rfl (oneV nx ny nz pr) ?_))
                refine bodyPost_ret (results_row_tmp rfl _ _ w.heap.size 45 (vc nx ny nz pr) (0, 0) _ rfl (Vr.row s0 nx ny nz pr) Tryz.underlying45 rfl (sizeV nx ny nz pr)) rfl ⟨?_, below_setRow hb8 (by omega) _⟩
                rw [HF.out]
                rfl
              · have he' : (txt.toList == s.toList) = false := by simpa [eqT] using he
                have HF : Hid (parseV s = ((0, 0, 0, ⟨#[]⟩), false)) := by show _ = _; rw [HV.out, HQ.out, if_neg (fun h => he h.2)]
                clear HQ HV he
                go_wp2_with (first | (refine wpList_load_row rfl 45 _ rfl (w.heap.size + 1) rfl 45 (vc 0 0 0 ⟨#[]⟩) (0, 0) _ s1 Tryz.underlying45 rfl (sizeV 0 0 0 ⟨#[]⟩) ?_) | (refine wpList_store_row rfl 45 _ _ rfl w.heap.size (vc 0 0 0 ⟨#[]⟩) rfl rfl 45 (vc 0 0 0 ⟨#[]⟩) s0 (sizeV 0 0 0 ⟨#[]⟩) rfl (oneV 0 0 0 ⟨#[]⟩) ?_))
                refine bodyPost_ret (results_row_tmp rfl _ _ w.heap.size 45 (vc 0 0 0 ⟨#[]⟩) (0, 0) _ rfl (Vr.row s0 0 0 0 ⟨#[]⟩) Tryz.underlying45 rfl (sizeV 0 0 0 ⟨#[]⟩)) rfl ⟨?_, below_setRow hb8 (by omega) _⟩
                rw [HF.out]
                rfl
          · have d3 : ((T.length : Int) != 3) = true := by simp; omega
            have HF : Hid (parseV s = ((0, 0, 0, ⟨#[]⟩), false)) := by
              show _ = _
              rw [HV.out]
              unfold parse3
              rw [HT.out]
              split
              · simp at hlen
              · rfl
            clear HV HT hc hTs
            go_wp2_with (first | (refine wpList_load_row rfl 45 _ rfl (w.heap.size + 1) rfl 45 (vc 0 0 0 ⟨#[]⟩) (0, 0) _ s1 Tryz.underlying45 rfl (sizeV 0 0 0 ⟨#[]⟩) ?_) | (refine wpList_store_row rfl 45 _ _ rfl w.heap.size (vc 0 0 0 ⟨#[]⟩) rfl rfl 45 (vc 0 0 0 ⟨#[]⟩) s0 (sizeV 0 0 0 ⟨#[]⟩) rfl (oneV 0 0 0 ⟨#[]⟩) ?_))
            refine bodyPost_ret (results_row_tmp rfl _ _ w.heap.size 45 (vc 0 0 0 ⟨#[]⟩) (0, 0) _ rfl (Vr.row s0 0 0 0 ⟨#[]⟩) Tryz.underlying45 rfl (sizeV 0 0 0 ⟨#[]⟩)) rfl ⟨?_, below_setRow hb5 (by omega) _⟩
            rw [HF.out]
            rfl
        · have d1 : ((t[k].toNat : Int) == 45) = false := by simpa using hm
          have HN : Hid (∀ j, j < k + 1 → (sb t)[j]? ≠ some 45) := fun j hj => by
            by_cases e : j = k
            · subst e; rw [HG.out]; simpa using hm
            · exact HA.out j (by omega)
          clear hm HG HA
          go_wp2
          go_roundw
          case rel => exact ⟨k + 1, by omega, rfl, by go_num, HN, by first | rfl | trivial⟩
          case measure => simp [intOf]; omega
      · have HC : Hid (cut t = (t, ⟨#[]⟩)) := cut_none (fun j hj => HA.out j (by omega))
        have hul : t.size ≤ s.size := hts
        go_wp2_with fail
        obtain ⟨pr, hpr'⟩ : ∃ u : ByteArray, u = ⟨#[]⟩ := ⟨_, rfl⟩
        have HV : Hid (parseV s = parse3 s t pr) := by show _ = _; rw [HV0.out, HC.out, hpr']
        have hpr : pr.size ≤ 1000000000000 := by rw [hpr']; show (0 : Nat) ≤ _; omega
        obtain ⟨W, hW⟩ : ∃ W, W = w3 := ⟨_, rfl⟩
        have v0 : Vr W w.heap.size 0 0 0 ⟨#[]⟩ := by rw [hW]; exact HR.out.1
        have v1 : Vr W (w.heap.size + 1) 0 0 0 ⟨#[]⟩ := by rw [hW]; exact HR.out.2.1
        have v2 : Vr W (w.heap.size + 1 + 1) 0 0 0 pr := by rw [hW, hpr']; exact HR.out.2.2
        have hbW : Below w.heap.size w W := by rw [hW]; exact HB.out
        rw [← hW]
        clear hW HR HB hpr' HTs HC HV0 HA
        refine (split_spec W t 46 (by omega) (by omega) (by omega)).mono ?_
        rintro e w5 ⟨v5, rfl, o5, b5⟩
        have s0 := Vr.same v0 b5
        have s1 := Vr.same v1 b5
        have s2 := Vr.same v2 b5
        have hb5 : Below w.heap.size w w5 := hbW.trans (b5.mono hbW.size)
        have hs5 := hb5.size
        have lW := Vr.lt v2
        have hT0 := splitT_pos 46 t
        have hTs := splitT_size 46 t
        have hTl := splitT_len 46 t
        have HT : Hid (splitT 46 t = splitT 46 t) := rfl
        obtain ⟨T, hT⟩ : ∃ T, splitT 46 t = T := ⟨_, rfl⟩
        rw [hT] at o5 hT0 hTs hTl
        have HT : Hid (splitT 46 t = T) := hT
        obtain ⟨g, cap, rfl, hg1, hg2, hcap, hc⟩ := ownForm o5 (by rw [ss_len]; exact hT0)
        rw [ss_len] at hcap hc
        rw [ss_len]
        clear hT o5 v0 v1 v2 b5
        by_cases hlen : T.length = 3
        · obtain ⟨x, y, z, rfl⟩ : ∃ x y z, T = [x, y, z] := by
            match T, hlen with
            | [x, y, z], _ => exact ⟨x, y, z, rfl⟩
          have c0 : w5.cell? ⟨g, 0, none⟩ = some (.string x) := hc 0 (by simp)
          have c1 : w5.cell? ⟨g, 1, none⟩ = some (.string y) := hc 1 (by simp)
          have c2 : w5.cell? ⟨g, 2, none⟩ = some (.string z) := hc 2 (by simp)
          have hx := hTs x (by simp)
          have hy := hTs y (by simp)
          have hz := hTs z (by simp)
          have n0 : ∀ W, _ := fun W => number_spec W x (by omega)
          have n1 : ∀ W, _ := fun W => number_spec W y (by omega)
          have n2 : ∀ W, _ := fun W => number_spec W z (by omega)
          obtain ⟨nx, hnx⟩ : ∃ n, number (sb x) = n := ⟨_, rfl⟩
          obtain ⟨ny, hny⟩ : ∃ n, number (sb y) = n := ⟨_, rfl⟩
          obtain ⟨nz, hnz⟩ : ∃ n, number (sb z) = n := ⟨_, rfl⟩
          rw [hnx] at n0
          rw [hny] at n1
          rw [hnz] at n2
          obtain ⟨k0, k1, k2, k3⟩ := Vr.cells s2
          have f0 := Vr.frozen s2 0
          have f1 := Vr.frozen s2 1
          have f2 := Vr.frozen s2 2
          have hne : ¬ g = w.heap.size + 1 + 1 := by omega
          have hne2 : ¬ w.heap.size + 1 + 1 = g := by omega
          have HQ : Hid (parse3 s t pr = if okV nx ny nz pr = true ∧ eqT (Plain.txt (verText nx ny nz pr)) s = true then ((nx, ny, nz, pr), true) else ((0, 0, 0, ⟨#[]⟩), false)) := by
            show _ = _
            unfold parse3
            rw [HT.out]
            simp only [hnx, hny, hnz]
          have HS0 : Hid (Vr w5 w.heap.size 0 0 0 ⟨#[]⟩ ∧ Vr w5 (w.heap.size + 1) 0 0 0 ⟨#[]⟩ ∧ Vr w5 (w.heap.size + 1 + 1) 0 0 0 pr) := ⟨s0, s1, s2⟩
          clear hnx hny hnz hc hTs hTl hT0 HT s0 s1 s2
          go_wp2_with fail
          refine (n0 _).mono ?_
          rintro e w' ⟨rfl, rfl⟩
          go_wp2_with fail
          refine (n1 _).mono ?_
          rintro e w' ⟨rfl, rfl⟩
          go_wp2_with fail
          refine (n2 _).mono ?_
          rintro e w' ⟨rfl, rfl⟩
          go_wp2_with fail
          obtain ⟨ok, hok⟩ : ∃ o, okV nx ny nz pr = o := ⟨_, rfl⟩
          have qk := ok_spec (put3 w5 (w.heap.size + 1 + 1) nx ny nz) nx ny nz pr hpr
          rw [hok] at HQ qk
          unfold put3 ver at qk
          refine qk.mono ?_
          rintro e w7 ⟨rfl, b7⟩
          have s0 : Vr w7 w.heap.size 0 0 0 ⟨#[]⟩ := Vr.same (put3_other HS0.out.1 (by omega) nx ny nz) b7
          have s1 : Vr w7 (w.heap.size + 1) 0 0 0 ⟨#[]⟩ := Vr.same (put3_other HS0.out.2.1 (by omega) nx ny nz) b7
          have s2 : Vr w7 (w.heap.size + 1 + 1) nx ny nz pr := Vr.same (put3_row HS0.out.2.2 nx ny nz) b7
          have hb7 : Below w.heap.size w w7 := (put3_below hb5 (by omega) nx ny nz).trans (Below.mono b7 (put3_below hb5 (show w.heap.size ≤ w.heap.size + 1 + 1 by omega) nx ny nz).size)
          clear qk n0 n1 n2 c0 c1 c2 k0 k1 k2 k3 f0 f1 f2 HS0 b7 hok
          cases ok
          · have HF : Hid (parseV s = ((0, 0, 0, ⟨#[]⟩), false)) := by show _ = _; rw [HV.out, HQ.out]; rfl
            clear HQ HV
            go_wp2_with (first | (refine wpList_load_row rfl 45 _ rfl (w.heap.size + 1) rfl 45 (vc 0 0 0 ⟨#[]⟩) (0, 0) _ s1 Tryz.underlying45 rfl (sizeV 0 0 0 ⟨#[]⟩) ?_) | (refine wpList_store_row rfl 45 _ _ rfl w.heap.size (vc 0 0 0 ⟨#[]⟩) rfl rfl 45 (vc 0 0 0 ⟨#[]⟩) s0 (sizeV 0 0 0 ⟨#[]⟩) rfl (oneV 0 0 0 ⟨#[]⟩) ?_))
            refine bodyPost_ret (results_row_tmp rfl _ _ w.heap.size 45 (vc 0 0 0 ⟨#[]⟩) (0, 0) _ rfl (Vr.row s0 0 0 0 ⟨#[]⟩) Tryz.underlying45 rfl (sizeV 0 0 0 ⟨#[]⟩)) rfl ⟨?_, below_setRow hb7 (by omega) _⟩
            rw [HF.out]
            rfl
          · obtain ⟨k0, k1, k2, k3⟩ := Vr.cells s2
            have qt := vtext_spec w7 nx ny nz pr hpr
            unfold ver at qt
            obtain ⟨txt, htxt⟩ : ∃ o, Plain.txt (verText nx ny nz pr) = o := ⟨_, rfl⟩
            rw [htxt] at HQ qt
            go_wp2_with fail
            refine qt.mono ?_
            rintro e w8 ⟨rfl, b8⟩
            replace s0 := Vr.same s0 b8
            replace s1 := Vr.same s1 b8
            replace s2 := Vr.same s2 b8
            have hb8 : Below w.heap.size w w8 := hb7.trans (b8.mono hb7.size)
            clear qt k0 k1 k2 k3 htxt b8
            by_cases he : eqT txt s = true
            · have he' : (txt.toList == s.toList) = true := he
              have HF : Hid (parseV s = ((nx, ny, nz, pr), true)) := by show _ = _; rw [HV.out, HQ.out, if_pos ⟨by first | rfl | trivial, he⟩]
              clear HQ HV he
              go_wp2_with (first | (refine wpList_load_row rfl 45 _ rfl (w.heap.size + 1 + 1) rfl 45 (vc nx ny nz pr) (0, 0) _ s2 Tryz.underlying45 rfl (sizeV nx ny nz pr) ?_) | (refine wpList_store_row rfl 45 _ _ rfl w.heap.size (vc nx ny nz pr) rfl rfl 45 (vc 0 0 0 ⟨#[]⟩) s0 (sizeV nx ny nz pr) rfl (oneV nx ny nz pr) ?_))
              refine bodyPost_ret (results_row_tmp rfl _ _ w.heap.size 45 (vc nx ny nz pr) (0, 0) _ rfl (Vr.row s0 nx ny nz pr) Tryz.underlying45 rfl (sizeV nx ny nz pr)) rfl ⟨?_, below_setRow hb8 (by omega) _⟩
              rw [HF.out]
              rfl
            · have he' : (txt.toList == s.toList) = false := by simpa [eqT] using he
              have HF : Hid (parseV s = ((0, 0, 0, ⟨#[]⟩), false)) := by show _ = _; rw [HV.out, HQ.out, if_neg (fun h => he h.2)]
              clear HQ HV he
              go_wp2_with (first | (refine wpList_load_row rfl 45 _ rfl (w.heap.size + 1) rfl 45 (vc 0 0 0 ⟨#[]⟩) (0, 0) _ s1 Tryz.underlying45 rfl (sizeV 0 0 0 ⟨#[]⟩) ?_) | (refine wpList_store_row rfl 45 _ _ rfl w.heap.size (vc 0 0 0 ⟨#[]⟩) rfl rfl 45 (vc 0 0 0 ⟨#[]⟩) s0 (sizeV 0 0 0 ⟨#[]⟩) rfl (oneV 0 0 0 ⟨#[]⟩) ?_))
              refine bodyPost_ret (results_row_tmp rfl _ _ w.heap.size 45 (vc 0 0 0 ⟨#[]⟩) (0, 0) _ rfl (Vr.row s0 0 0 0 ⟨#[]⟩) Tryz.underlying45 rfl (sizeV 0 0 0 ⟨#[]⟩)) rfl ⟨?_, below_setRow hb8 (by omega) _⟩
              rw [HF.out]
              rfl
        · have d3 : ((T.length : Int) != 3) = true := by simp; omega
          have HF : Hid (parseV s = ((0, 0, 0, ⟨#[]⟩), false)) := by
            show _ = _
            rw [HV.out]
            unfold parse3
            rw [HT.out]
            split
            · simp at hlen
            · rfl
          clear HV HT hc hTs
          go_wp2_with (first | (refine wpList_load_row rfl 45 _ rfl (w.heap.size + 1) rfl 45 (vc 0 0 0 ⟨#[]⟩) (0, 0) _ s1 Tryz.underlying45 rfl (sizeV 0 0 0 ⟨#[]⟩) ?_) | (refine wpList_store_row rfl 45 _ _ rfl w.heap.size (vc 0 0 0 ⟨#[]⟩) rfl rfl 45 (vc 0 0 0 ⟨#[]⟩) s0 (sizeV 0 0 0 ⟨#[]⟩) rfl (oneV 0 0 0 ⟨#[]⟩) ?_))
          refine bodyPost_ret (results_row_tmp rfl _ _ w.heap.size 45 (vc 0 0 0 ⟨#[]⟩) (0, 0) _ rfl (Vr.row s0 0 0 0 ⟨#[]⟩) Tryz.underlying45 rfl (sizeV 0 0 0 ⟨#[]⟩)) rfl ⟨?_, below_setRow hb5 (by omega) _⟩
          rw [HF.out]
          rfl
  · have HF : Hid (parseV s = ((0, 0, 0, ⟨#[]⟩), false)) := by show _ = _; unfold parseV; rw [if_neg hv]
    have s0 : Vr ((w.alloc (.cells #[.int .i64 0, .int .i64 0, .int .i64 0, .string ⟨#[]⟩] 45)).alloc (.cells #[.int .i64 0, .int .i64 0, .int .i64 0, .string ⟨#[]⟩] 45)) w.heap.size 0 0 0 ⟨#[]⟩ := Vr.same (w := w.alloc (.cells (vc 0 0 0 ⟨#[]⟩) 45)) (heap_alloc_new w _) ((Below.refl _ _).alloc (Nat.le_refl _) _)
    have s1 : Vr ((w.alloc (.cells #[.int .i64 0, .int .i64 0, .int .i64 0, .string ⟨#[]⟩] 45)).alloc (.cells #[.int .i64 0, .int .i64 0, .int .i64 0, .string ⟨#[]⟩] 45)) (w.heap.size + 1) 0 0 0 ⟨#[]⟩ := heap_alloc2_new w _ _
    have hb2 : Below w.heap.size w ((w.alloc (.cells #[.int .i64 0, .int .i64 0, .int .i64 0, .string ⟨#[]⟩] 45)).alloc (.cells #[.int .i64 0, .int .i64 0, .int .i64 0, .string ⟨#[]⟩] 45)) := ((Below.refl _ _).alloc (Nat.le_refl _) _).alloc (by simp) _
    by_cases h0 : s.size = 0
    · have he : s.toList.isEmpty = true := by rw [toList_empty]; exact decide_eq_true h0
      clear hv h0
      go_enter Tryz.func73, Tryz.ntmps73
      go_wp2_with (first | (refine wpList_load_row rfl 45 _ rfl (w.heap.size + 1) rfl 45 (vc 0 0 0 ⟨#[]⟩) (0, 0) _ s1 Tryz.underlying45 rfl (sizeV 0 0 0 ⟨#[]⟩) ?_) | (refine wpList_store_row rfl 45 _ _ rfl w.heap.size (vc 0 0 0 ⟨#[]⟩) rfl rfl 45 (vc 0 0 0 ⟨#[]⟩) s0 (sizeV 0 0 0 ⟨#[]⟩) rfl (oneV 0 0 0 ⟨#[]⟩) ?_))
      refine bodyPost_ret (results_row_tmp rfl _ _ w.heap.size 45 (vc 0 0 0 ⟨#[]⟩) (0, 0) _ rfl (Vr.row s0 0 0 0 ⟨#[]⟩) Tryz.underlying45 rfl (sizeV 0 0 0 ⟨#[]⟩)) rfl ⟨?_, below_setRow hb2 (by omega) _⟩
      rw [HF.out]
      rfl
    · have he : s.toList.isEmpty = false := by rw [toList_empty]; exact decide_eq_false h0
      have h1 : 0 < s.size := by omega
      have hc : ¬ (s[0].toNat : Int) = 118 := fun hc => hv (by rw [List.head?_eq_getElem?, sb_get s 0 h1, hc])
      have d1 : ((s[0].toNat : Int) != 118) = true := by simpa using hc
      clear hv h0 hc
      go_enter Tryz.func73, Tryz.ntmps73
      go_wp2_with (first | (refine wpList_load_row rfl 45 _ rfl (w.heap.size + 1) rfl 45 (vc 0 0 0 ⟨#[]⟩) (0, 0) _ s1 Tryz.underlying45 rfl (sizeV 0 0 0 ⟨#[]⟩) ?_) | (refine wpList_store_row rfl 45 _ _ rfl w.heap.size (vc 0 0 0 ⟨#[]⟩) rfl rfl 45 (vc 0 0 0 ⟨#[]⟩) s0 (sizeV 0 0 0 ⟨#[]⟩) rfl (oneV 0 0 0 ⟨#[]⟩) ?_))
      refine bodyPost_ret (results_row_tmp rfl _ _ w.heap.size 45 (vc 0 0 0 ⟨#[]⟩) (0, 0) _ rfl (Vr.row s0 0 0 0 ⟨#[]⟩) Tryz.underlying45 rfl (sizeV 0 0 0 ⟨#[]⟩)) rfl ⟨?_, below_setRow hb2 (by omega) _⟩
      rw [HF.out]
      rfl


end Go.Proofs.YtbopliahafkecaaGreatDoor.Ver
