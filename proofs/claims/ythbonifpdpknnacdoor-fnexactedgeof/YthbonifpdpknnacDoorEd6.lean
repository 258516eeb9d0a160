/- Chapter 7, the specification's side: the root of an edge. -/
import Derived.Test.YthbonifpdpknnacDoorEd5
namespace Go.Proofs.YthbonifpdpknnacDoor.Ed
open Go.RowKit Go.Proofs.YthbonifpdpknnacDoor.Mem Go.Proofs.YthbonifpdpknnacDoor.Laws Go.Proofs.YthbonifpdpknnacDoor.Bytes Go.Proofs.YthbonifpdpknnacDoor.Sha Go.Proofs.YthbonifpdpknnacDoor.Tr
set_option linter.unusedVariables false
set_option linter.unusedSimpArgs false

theorem slGet {w : World} {ao : Option Addr} {L cap : Nat} {l : List ByteArray} (h : Sl w (.slice ao L cap) (ss l)) {k : Nat} {s : ByteArray} (hs : l[k]? = some s) : ∃ b off, ao = some ⟨b, off, none⟩ ∧ w.cell? ⟨b, off + k, none⟩ = some (.string s) := by
  have hk : k < l.length := (List.getElem?_eq_some_iff.1 hs).1
  obtain ⟨ao', c', he, _, _, hr⟩ := h
  rw [ss_len] at he hr
  simp only [Value.slice.injEq] at he
  obtain ⟨rfl, _, rfl⟩ := he
  obtain ⟨b, off, he, hc⟩ := hr (by omega)
  exact ⟨b, off, he, by rw [hc k hk]; simp [ss, hs]⟩
theorem eroot_drop {hs : List ByteArray} {k : Nat} {g : ByteArray} (hg : hs[k]? = some g) (hk : k + 1 < hs.length) : eroot (hs.drop k) = nodeH g (eroot (hs.drop (k + 1))) := by
  obtain ⟨h1, rfl⟩ := List.getElem?_eq_some_iff.1 hg
  rw [List.drop_eq_getElem_cons h1]
  exact eroot_cons (by intro h; have := congrArg List.length h; simp at this; omega)
theorem eroot_last {hs : List ByteArray} {k : Nat} {g : ByteArray} (hg : hs[k]? = some g) (hk : k + 1 = hs.length) : eroot (hs.drop k) = g := by
  obtain ⟨h1, rfl⟩ := List.getElem?_eq_some_iff.1 hg
  rw [List.drop_eq_getElem_cons h1, List.drop_eq_nil_of_le (by omega)]
  rfl
theorem popc_pos : ∀ n : Fin 256, 1 ≤ n.val → 1 ≤ popc n.val := by decide +kernel

set_option maxRecDepth 1000000 in
set_option maxHeartbeats 4000000 in
theorem root_specE (w : World) (n : Int) (v : Value) (hs : List ByteArray) (h : Sl w v (ss hs)) (hl : hs.length ≤ 1000000000) :
    Calls Tryd.prog 20 #[.agg #[.int .i64 n, v]] w fun e w' => e = .returned (.string (rootE n hs)) ∧ Below w.heap.size w w' := by
  obtain ⟨W, hW⟩ : ∃ W, W = w.alloc (.cells #[.int .i64 n, v] 25) := ⟨_, rfl⟩
  have r0 : W.heap[w.heap.size]? = some (.cells (ee n v) 25 (0, 0)) := by rw [hW]; exact heap_alloc_new w _
  have hB : Below w.heap.size w W := by rw [hW]; exact (Below.refl _ _).alloc (Nat.le_refl _) _
  have q := ok_spec W n v hs (h.later hB) (by omega)
  have HS : Hid (Sl W v (ss hs)) := h.later hB
  have HR0 : Hid _ := r0
  have HB : Hid _ := hB
  have HW : Hid _ := hW
  rw [hW] at r0
  obtain ⟨ao, cap, rfl, hcap⟩ := h.form
  rw [ss_len] at *
  have HL0 : Hid _ := r0
  clear hW r0 hB h
  by_cases ho : okE n hs = true
  · have HN : Hid (rootE n hs = eroot hs) := by show _ = _; unfold rootE; rw [if_pos ho]
    obtain ⟨⟨i1, i2⟩, i3, i4⟩ := okE_iff.1 ho
    obtain ⟨m, rfl⟩ : ∃ m : Nat, n = (m : Int) := ⟨n.toNat, by omega⟩
    rw [Int.toNat_natCast] at i3
    have hl8 := popc_le ⟨m, by omega⟩
    have hp1 := popc_pos ⟨m, by omega⟩
    simp only at hl8 hp1
    have HI : Hid (hs.length = popc m) := i3
    clear i3
    rw [ho] at q
    clear ho
    go_enter Tryd.func20, Tryd.ntmps20
    go_wp2_with (refine wpList_load_row rfl 25 _ rfl w.heap.size rfl 25 (ee (m : Int) (.slice ao hs.length cap)) (0, 0) _ HL0.out Tryd.underlying25 rfl (sizeEd _ _) ?_)
    rw [← HW.out]
    refine q.mono ?_
    rintro e w1 ⟨rfl, b1⟩
    have R0 : w1.heap[w.heap.size]? = some (.cells (ee (m : Int) (.slice ao hs.length cap)) 25 (0, 0)) := rowKeep HR0.out b1
    have k0 : w1.cell? ⟨w.heap.size, 0, none⟩ = some (.int .i64 (m : Int)) := row_at R0 0
    have k1 : w1.cell? ⟨w.heap.size, 1, none⟩ = some (.slice ao hs.length cap) := row_at R0 1
    have HB1 : Hid (Below w.heap.size w w1) := HB.out.trans (b1.mono HB.out.size)
    have HS1 : Hid (Sl w1 (.slice ao hs.length cap) (ss hs)) := HS.out.later b1
    clear HL0 HW q HS HB b1 HR0 R0
    by_cases h0 : m = 0
    · subst h0
      have hnil : hs = [] := List.eq_nil_of_length_eq_zero (by rw [HI.out, popc_zero])
      have HE : Hid (eroot hs = Plain.txt (digest [])) := by show _ = _; rw [hnil]; rfl
      have qd := digest_spec (w1.alloc (.cells #[] 5)) (.slice (some ⟨w1.heap.size, 0, none⟩) 0 0) [] (Own.emptyB w1 w1.heap.size (Nat.le_refl _)).sl (by intro x hx; cases hx) (by simp)
      have hB2 : Below w.heap.size w (w1.alloc (.cells #[] 5)) := HB1.out.alloc HB1.out.size _
      clear hnil HI i4 HS1 hp1
      go_wp2_with fail
      refine qd.mono ?_
      rintro e w2 ⟨rfl, b2⟩
      have hB3 : Below w.heap.size w w2 := hB2.trans (b2.mono hB2.size)
      go_wp2
      go_ret
      exact ⟨by rw [HN.out, HE.out]; rfl, hB3⟩
    · have hp1 := hp1 (by omega)
      have hL : 1 ≤ hs.length := by rw [HI.out]; exact hp1
      have hL8 : hs.length ≤ 8 := by rw [HI.out]; exact hl8
      have d0 : ((m : Int) == 0) = false := by rw [beq_eq_false_iff_ne]; omega
      clear HI hp1 hl8 h0
      obtain ⟨t, ht⟩ : ∃ t, hs[hs.length - 1]? = some t := ⟨hs[hs.length - 1], by simp⟩
      obtain ⟨b, off, rfl, hcell⟩ := slGet HS1.out ht
      have ht32 := i4 t (List.mem_of_getElem? ht)
      have HT : Hid (eroot (hs.drop (hs.length - 1)) = t) := eroot_last ht (by omega)
      have HA : Hid (∀ s ∈ hs, s.size = 32) := i4
      have e0 : (1 : Int) ≤ (hs.length : Int) := by omega
      have e1 : (hs.length : Int) - 1 < (hs.length : Int) := by omega
      have e3 : (0 : Int) ≤ (hs.length : Int) - 1 := by omega
      have dn : ((hs.length : Int) - 1).toNat = hs.length - 1 := by omega
      have hwr : IntKind.i64.wrap ((hs.length : Int) - 1) = (hs.length : Int) - 1 := by rw [IntKind.wrap_i64]; omega
      have hwr2 : IntKind.i64.wrap ((hs.length : Int) - 2) = (hs.length : Int) - 2 := by rw [IntKind.wrap_i64]; omega
      clear ht i4
      go_wp2
      go_loopw [3, 4] (fun a i wr => ∃ (k : Nat) (x : ByteArray), k + 1 ≤ hs.length ∧ a = .string x ∧ i = .int .i64 ((k : Int) - 1) ∧ Hid (eroot (hs.drop k) = x) ∧ x.size = 32 ∧ Hid (wr.cell? ⟨w.heap.size, 1, none⟩ = some (.slice (some ⟨b, off, none⟩) hs.length cap)) ∧ Hid (Below w1.heap.size w1 wr)) (fun _ i _ => (intOf i + 1).toNat)
      case atStart => exact ⟨hs.length - 1, t, by omega, rfl, by simp; omega, HT, ht32, k1, Below.refl _ _⟩
      case round =>
        obtain ⟨k, x, hk, rfl, rfl, HX, hx, HC, HBr⟩ := hrel
        clear k0 k1 hcell HT
        by_cases hk0 : k = 0
        · subst hk0
          have HE : Hid (eroot hs = x) := by have := HX.out; rwa [List.drop_zero] at this
          clear HX
          go_wp2
          go_ret
          exact ⟨by rw [HN.out, HE.out]; rfl, HB1.out.trans (HBr.out.mono HB1.out.size)⟩
        · obtain ⟨j, rfl⟩ : ∃ j, k = j + 1 := ⟨k - 1, by omega⟩
          obtain ⟨g, hg⟩ : ∃ g, hs[j]? = some g := ⟨hs[j], by simp⟩
          obtain ⟨b', off', he, hcg⟩ := slGet (HS1.out.later HBr.out) hg
          simp only [Option.some.injEq, Addr.mk.injEq] at he
          obtain ⟨rfl, rfl, _⟩ := he
          have hg32 := HA.out g (List.mem_of_getElem? hg)
          have HX' : Hid (eroot (hs.drop j) = nodeH g x) := by show _ = _; rw [eroot_drop hg (by omega), HX.out]
          have qn : ∀ W, _ := fun W => node_spec W g x (by omega) (by omega)
          have hy := nodeH_size g x
          obtain ⟨y, hyy⟩ : ∃ y, nodeH g x = y := ⟨_, rfl⟩
          simp only [hyy] at qn HX' hy
          have ej : ((j + 1 : Nat) : Int) - 1 = (j : Int) := by omega
          have cc := HC.out
          have f1 : (0 : Int) ≤ (j : Int) := by omega
          have f2 : (j : Int) < (hs.length : Int) := by omega
          rw [ej]
          clear hg HX hg32 hyy
          go_wp2_with fail
          refine (qn _).mono ?_
          rintro e w3 ⟨rfl, b3⟩
          have HC3 : Hid (w3.cell? ⟨w.heap.size, 1, none⟩ = some (.slice (some ⟨b, off, none⟩) hs.length cap)) := keepR HC.out b3
          have HB3 : Hid (Below w1.heap.size w1 w3) := HBr.out.trans (b3.mono HBr.out.size)
          clear HC cc qn b3 HBr hcg
          go_wp2
          go_roundw
          case rel => exact ⟨j, y, by omega, rfl, by go_num, HX', hy, HC3, HB3⟩
          case measure => simp [intOf]
  · have HN : Hid (rootE n hs = ⟨#[]⟩) := by show _ = _; unfold rootE; rw [if_neg ho]
    have hof : okE n hs = false := by simpa using ho
    rw [hof] at q
    clear ho hof
    go_enter Tryd.func20, Tryd.ntmps20
    go_wp2_with (refine wpList_load_row rfl 25 _ rfl w.heap.size rfl 25 (ee n (.slice ao hs.length cap)) (0, 0) _ HL0.out Tryd.underlying25 rfl (sizeEd _ _) ?_)
    rw [← HW.out]
    refine q.mono ?_
    rintro e w1 ⟨rfl, b1⟩
    have HB1 : Hid (Below w.heap.size w w1) := HB.out.trans (b1.mono HB.out.size)
    clear HL0 HW q HS HB b1 HR0
    go_wp2
    go_ret
    exact ⟨by rw [HN.out]; rfl, HB1.out⟩

end Go.Proofs.YthbonifpdpknnacDoor.Ed
