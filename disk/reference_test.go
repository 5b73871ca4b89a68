package disk_test

import (
	"regexp"
	"slices"
	"strings"

	"longshore/api"
)

// cell is a byte of a file, and whether it is safe.
type cell struct {
	b    byte
	safe bool
}

type sheet struct {
	name  string
	cells []cell
}

// model is a disk made another way: a list of files whose bytes are each safe or not, names by a regular expression, the room counted anew each time, acts counted upwards.
type model struct {
	room   int
	sheets []sheet
	down   bool
	armed  bool
	done   int // acts since the last Arm
	until  int // how many of them are done
	keep   int
}

var aName = regexp.MustCompile(`\A[a-z.]{1,16}\z`)

func newModel(room int) *model {
	if room < 0 || room > maxDisk {
		return nil
	}
	return &model{room: room}
}

func loadModel(files []api.File, room int) (*model, api.Errno) {
	m := newModel(room)
	if m == nil {
		return nil, api.ErrArg
	}
	for i, f := range files {
		twice := slices.ContainsFunc(files[:i], func(g api.File) bool { return g.Name == f.Name })
		if twice || !aName.MatchString(f.Name) || f.Safe < 0 || f.Safe > len(f.Data) {
			return nil, api.ErrArg
		}
	}
	for _, f := range files {
		s := sheet{name: f.Name}
		for at, b := range f.Data {
			s.cells = append(s.cells, cell{b, at < f.Safe})
		}
		m.sheets = append(m.sheets, s)
	}
	if m.bytes() > room {
		return nil, api.ErrDiskFull
	}
	return m, api.OK
}

func (m *model) bytes() int {
	n := 0
	for _, s := range m.sheets {
		n += len(s.cells)
	}
	return n
}

func (m *model) at(name string) int {
	return slices.IndexFunc(m.sheets, func(s sheet) bool { return s.name == name })
}

func (m *model) without(name string) []sheet {
	return slices.DeleteFunc(slices.Clone(m.sheets), func(s sheet) bool { return s.name == name })
}

// fails counts an act, and tells whether the power fails in it.
func (m *model) fails() bool {
	m.done++
	return m.armed && m.done > m.until
}

func (m *model) fall(keep int) api.Errno {
	m.down, m.armed = true, false
	for i, s := range m.sheets {
		var stays []cell
		tail := 0
		for _, c := range s.cells {
			if !c.safe {
				tail++
			}
			if c.safe || tail <= keep {
				stays = append(stays, cell{c.b, true})
			}
		}
		m.sheets[i].cells = stays
	}
	return api.ErrDown
}

func (m *model) Append(name string, b []byte) api.Errno {
	if m.down {
		return api.ErrDown
	}
	if !aName.MatchString(name) {
		return api.ErrArg
	}
	if m.bytes()+len(b) > m.room {
		return api.ErrDiskFull
	}
	if m.at(name) < 0 {
		m.sheets = append(m.sheets, sheet{name: name})
	}
	s := &m.sheets[m.at(name)]
	for _, x := range b {
		s.cells = append(s.cells, cell{x, false})
	}
	if m.fails() {
		return m.fall(m.keep)
	}
	return api.OK
}

// one is why a call of a file that must be there is refused.
func (m *model) one(name string) api.Errno {
	if m.down {
		return api.ErrDown
	}
	if !aName.MatchString(name) {
		return api.ErrArg
	}
	if m.at(name) < 0 {
		return api.ErrPlace
	}
	return api.OK
}

func (m *model) Sync(name string) api.Errno {
	if e := m.one(name); e != api.OK {
		return e
	}
	if m.fails() {
		return m.fall(m.keep)
	}
	l := m.sheets[m.at(name)].cells
	for i := range l {
		l[i].safe = true
	}
	return api.OK
}

func (m *model) Rename(from, to string) api.Errno {
	if m.down {
		return api.ErrDown
	}
	if !aName.MatchString(from) || !aName.MatchString(to) {
		return api.ErrArg
	}
	if m.at(from) < 0 {
		return api.ErrPlace
	}
	s := m.sheets[m.at(from)]
	if slices.ContainsFunc(s.cells, func(c cell) bool { return !c.safe }) {
		return api.ErrSafe
	}
	if m.fails() {
		return m.fall(m.keep)
	}
	m.sheets = m.without(from)
	m.sheets = append(m.without(to), sheet{to, s.cells})
	return api.OK
}

func (m *model) Delete(name string) api.Errno {
	if e := m.one(name); e != api.OK {
		return e
	}
	if m.fails() {
		return m.fall(m.keep)
	}
	m.sheets = m.without(name)
	return api.OK
}

func (m *model) Read(name string) ([]byte, api.Errno) {
	if e := m.one(name); e != api.OK {
		return nil, e
	}
	return m.sheets[m.at(name)].file().Data, api.OK
}

func (s sheet) file() api.File {
	f := api.File{Name: s.name}
	for _, c := range s.cells {
		f.Data = append(f.Data, c.b)
		if c.safe {
			f.Safe++
		}
	}
	return f
}

func (m *model) Files() []api.File {
	var l []api.File
	for _, s := range m.sheets {
		l = append(l, s.file())
	}
	slices.SortFunc(l, func(a, b api.File) int { return strings.Compare(a.Name, b.Name) })
	return l
}

func (m *model) Arm(acts, keep int) {
	if !m.down {
		m.armed, m.done, m.until, m.keep = acts >= 0, 0, acts, keep
	}
}

func (m *model) Crash(keep int) {
	if !m.down {
		m.fall(keep)
	}
}

func (m *model) Up() bool { return !m.down }

func (m *model) Start() { m.down = false }

// copied is a model like this one, that goes on by itself.
func (m *model) copied() *model {
	c := *m
	c.sheets = slices.Clone(m.sheets)
	for i, s := range c.sheets {
		c.sheets[i].cells = slices.Clone(s.cells)
	}
	return &c
}

var _ calls = (*model)(nil)
