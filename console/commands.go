package console

import (
	"strconv"
	"strings"

	"cubbyhole/api"
	"cubbyhole/cache"
	"cubbyhole/config"
	"cubbyhole/contest"
	"cubbyhole/entry"
	"cubbyhole/event"
	"cubbyhole/report"
	"cubbyhole/snap"
)

// command is what a word does, and how many words follow it at least and at most.
type command struct {
	least, most int
	do          func(c *Console, words []string) string
}

// commands returns all commands by their words.
func commands() map[string]command {
	return map[string]command{
		"script": {2, 2, (*Console).script}, "show": {1, 1, (*Console).show}, "drop": {1, 1, (*Console).drop}, "names": {0, 0, (*Console).names},
		"config": {5, 5, (*Console).config}, "other": {5, 5, (*Console).other}, "configs": {0, 0, (*Console).configs},
		"run": {1, 1, (*Console).run}, "events": {1, 1, (*Console).events}, "check": {1, 1, (*Console).check},
		"compact": {1, 1, (*Console).compact}, "differ": {1, 1, (*Console).differ}, "shrink": {2, 2, (*Console).shrink},
		"scores": {3, 3, (*Console).scores}, "journal": {1, 1, (*Console).journal}, "new": {0, 0, (*Console).renew},
		"set": {3, 4, (*Console).set}, "get": {2, 2, (*Console).get}, "touch": {3, 3, (*Console).touch}, "delete": {2, 2, (*Console).remove},
		"resize": {3, 3, (*Console).resize}, "clear": {1, 1, (*Console).clear}, "advance": {1, 1, (*Console).advance},
		"entries": {0, 0, (*Console).entries}, "order": {0, 0, (*Console).order}, "drain": {0, 0, (*Console).drain},
		"open": {0, 0, (*Console).open}, "close": {1, 1, (*Console).close}, "next": {2, 2, (*Console).next},
		"save": {0, 0, (*Console).save}, "load": {1, 1, (*Console).load},
	}
}

func (c *Console) script(words []string) string {
	must(c.lab.Put(words[0], bytes(words[1])))
	return done
}

func (c *Console) show(words []string) string {
	b, e := c.lab.Get(words[0])
	must(e)
	return hex(b) + "\n"
}

func (c *Console) drop(words []string) string {
	must(c.lab.Remove(words[0]))
	return done
}

func (c *Console) names([]string) string {
	names := c.lab.Names()
	if len(names) == 0 {
		return none
	}
	return strings.Join(names, " ") + "\n"
}

// configOf returns the configuration whose text some words are.
func configOf(words []string) api.Config {
	x, e := config.Parse(strings.Join(words, " "))
	must(e)
	return x
}

func (c *Console) config(words []string) string {
	c.first = configOf(words)
	return done
}

func (c *Console) other(words []string) string {
	c.second = configOf(words)
	return done
}

func (c *Console) configs([]string) string {
	var answer strings.Builder
	for _, x := range []api.Config{c.first, c.second} {
		text, e := config.Text(x)
		must(e)
		answer.WriteString(text + "\n")
	}
	return answer.String()
}

// trace returns the run of a script with the first configuration.
func (c *Console) trace(name string) []api.Result {
	l, e := c.lab.Run(name, c.first)
	must(e)
	return l
}

func (c *Console) run(words []string) string {
	count, e := report.OfRun(c.trace(words[0]))
	must(e)
	text, e := report.Run(count)
	must(e)
	return text
}

// eventText returns the text of some events, or that there are none.
func eventText(l []api.Event) string {
	text, e := event.Write(l)
	must(e)
	return orNone(text)
}

func (c *Console) events(words []string) string {
	var all []api.Event
	for _, r := range c.trace(words[0]) {
		all = append(all, r.Events...)
	}
	return eventText(all)
}

func (c *Console) check(words []string) string {
	x, e := c.lab.Check(words[0], c.first)
	must(e)
	text, e := report.Check(x)
	must(e)
	return text
}

// firstOf returns the answer for the index of the first operation that differs.
func firstOf(at int, e api.Errno) string {
	must(e)
	return either(at < 0, "same\n", "first "+strconv.Itoa(at)+"\n")
}

func (c *Console) compact(words []string) string { return firstOf(c.lab.Compact(words[0], c.first)) }

func (c *Console) differ(words []string) string {
	return firstOf(c.lab.Differ(words[0], c.first, c.second))
}

func (c *Console) shrink(words []string) string {
	n, e := c.lab.Shrink(words[0], words[1], c.first, c.second)
	must(e)
	return "tried " + strconv.Itoa(n) + "\n"
}

func (c *Console) scores(words []string) string {
	kind, e := contest.Kind(words[1])
	must(e)
	l, e := c.lab.Scores(words[0], []api.PolicyKind{kind}, []int{number(words[2])})
	must(e)
	text, e := report.Scores(l)
	must(e)
	return text
}

func (c *Console) journal(words []string) string {
	b, e := c.lab.Journal(words[0])
	must(e)
	return hex(b) + "\n"
}

func (c *Console) renew([]string) string {
	x, e := cache.New(c.first)
	must(e)
	c.use(x)
	return done
}

func (c *Console) set(words []string) string {
	t, key, value := time(words[0]), string(bytes(words[1])), bytes(words[2])
	if len(words) == 3 {
		must(c.cache().Set(t, key, value))
		return done
	}
	must(c.cache().SetTTL(t, key, value, time(words[3])))
	return done
}

func (c *Console) get(words []string) string {
	value, there, e := c.cache().Get(time(words[0]), string(bytes(words[1])))
	must(e)
	return either(there, "hit "+hex(value)+"\n", "miss\n")
}

// yes returns the answer to whether something was there.
func yes(there bool, e api.Errno) string {
	must(e)
	return either(there, "yes\n", "no\n")
}

func (c *Console) touch(words []string) string {
	return yes(c.cache().Touch(time(words[0]), string(bytes(words[1])), time(words[2])))
}

func (c *Console) remove(words []string) string {
	return yes(c.cache().Delete(time(words[0]), string(bytes(words[1]))))
}

func (c *Console) resize(words []string) string {
	must(c.cache().Resize(time(words[0]), number(words[1]), number(words[2])))
	return done
}

func (c *Console) clear(words []string) string {
	n, e := c.cache().Clear(time(words[0]))
	must(e)
	return "cleared " + strconv.Itoa(n) + "\n"
}

func (c *Console) advance(words []string) string {
	must(c.cache().Advance(time(words[0])))
	return done
}

// entryLine returns the text of an entry as a line.
func entryLine(x api.Entry) string {
	text, e := entry.Text(x)
	must(e)
	return text + "\n"
}

func (c *Console) entries([]string) string {
	var answer strings.Builder
	for _, x := range c.cache().Entries() {
		answer.WriteString(entryLine(x))
	}
	return orNone(answer.String())
}

func (c *Console) order([]string) string {
	var answer strings.Builder
	for g, word := range []string{"probation", "protected"} {
		answer.WriteString(word)
		for _, b := range c.cache().Order(api.Segment(g)) {
			answer.WriteString(" " + strconv.FormatUint(b, 10))
		}
		answer.WriteString("\n")
	}
	return answer.String()
}

func (c *Console) drain([]string) string { return eventText(c.cache().Drain()) }

func (c *Console) open([]string) string {
	n, e := c.cursors.Open()
	must(e)
	return strconv.Itoa(n) + "\n"
}

func (c *Console) close(words []string) string {
	must(c.cursors.Close(number(words[0])))
	return done
}

func (c *Console) next(words []string) string {
	x, e := c.cursors.Next(time(words[0]), number(words[1]))
	must(e)
	return entryLine(x)
}

func (c *Console) save([]string) string {
	b, e := snap.Save(c.cache())
	must(e)
	return hex(b) + "\n"
}

func (c *Console) load(words []string) string {
	x, e := snap.Load(bytes(words[0]))
	must(e)
	c.use(x)
	return done
}
